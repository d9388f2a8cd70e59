/-
  A slot of n replicas in the laws' own memory: its cells, the proposals' row, and how they stand to the plain facts (NKeep).
-/
import Derived.Test.YtinflpheogglhaaP00
import Derived.Test.YtinflpheogglhaaP01
import Derived.Test.YtinflpheogglhaaP02
import Derived.Test.YtinflpheogglhaaP03
import Derived.Test.YtinflpheogglhaaP04
import Derived.Test.YtinflpheogglhaaP05
import Derived.Test.YtinflpheogglhaaProg
import Derived.WalkSpells
import Derived.OwnWalk
import Derived.Laws.AppendOwnNone
import Derived.Lib.Hide
import Derived.Lib.AppendZeros
import Derived.Outline
import Derived.Laws.IdiomStrings
import Derived.Tactics
import Derived.WalkKit
import Derived.BigQuiet
import Derived.Laws.Bits64
import Derived.Deep.DeepFit
import Derived.Laws.BitsAllLaws
import Derived.Laws.BytesString
import Derived.Deep.RegionHeld3
import Derived.LoopN
import Derived.Deep.RegionHeld
import Derived.Deep.MidRow
import Derived.Laws.MakeOwn
namespace Go.Proofs.Ytinflpheogglhaa
set_option maxRecDepth 100000
section
open Go Go.RowKit
def plcC (p : Plc) : List Value := [.int .i64 p.px, .int .i64 p.py, .int .i64 p.bx, .int .i64 p.yb, .int .u8 (p.st : Int), .int .i64 p.sq]
structure PrQ where
  x : Int := 0
  y : Int := 0
  sq : Int := 0
  by_ : Nat := 0
instance : Inhabited PrQ := ⟨{}⟩
def PrQ.cells (p : PrQ) : List Value := [.int .i64 p.x, .int .i64 p.y, .int .i64 p.sq, .int .u8 (p.by_ : Int)]
def PrQ.prp (p : PrQ) : Prp := ⟨p.x, p.y, p.sq, fun i => p.by_.testBit i⟩
theorem PrQ.one (a : PrQ) : ∀ u ∈ PrQ.cells a, u.oneCell' = true := by
  intro u hu
  simp only [PrQ.cells, List.mem_cons, List.not_mem_nil, or_false] at hu
  rcases hu with rfl | rfl | rfl | rfl <;> rfl
theorem setP_setP (pl : Nat → Plc) (i : Nat) (a b : Plc) : setP (setP pl i a) i b = setP pl i b := by
  funext j
  unfold setP
  split <;> rfl
theorem prp_add (p : PrQ) (i : Nat) (hi : i < 7) : ({ p with by_ := addQ p.by_ (i : Int) } : PrQ).prp = addA p.prp i := by
  unfold PrQ.prp addA addQ
  rw [if_pos (by omega), Int.toNat_natCast]
  congr 1
  funext j
  rw [Nat.testBit_or, Nat.testBit_two_pow, Bool.or_comm]
  congr 1
  rw [decide_eq_decide]
  exact eq_comm
theorem has_bit (s i : Nat) (hi : i < 7) : hasQ s (i : Int) = s.testBit i := by
  unfold hasQ
  rw [decide_eq_true (by omega), Int.toNat_natCast, Bool.true_and]
theorem most_cnt {N : Nat} (hN : N = 3 ∨ N = 5 ∨ N = 7) (s : Nat) : enoughQ s (N : Int) = decide (mostN N ≤ cnt N s.testBit) := by
  have h0 : mostQ (N : Int) ≠ 0 := by rcases hN with rfl | rfl | rfl <;> decide
  have hm := (most_half h0).1
  have hl : (membersQ s (N : Int)).length = cnt N s.testBit := by
    unfold membersQ
    rw [if_neg h0, Int.toNat_natCast]
    rfl
  unfold enoughQ mostN
  rw [hl, hm, decide_eq_decide]
  omega
structure KS (w : World) (g N : Nat) (pl : Nat → Plc) (pv : Value) (ch cx cy : Int) : Prop where
  row : ∃ cs, w.heap[g]? = some (.cells cs 46 (0, 0)) ∧ cs.size = 47
  n : w.cell? ⟨g, 0, none⟩ = some (.int .i64 (N : Int))
  at_ : ∀ i, i < 7 → ∀ k v, (plcC (pl i))[k]? = some v → w.cell? ⟨g, 1 + i * 6 + k, none⟩ = some v
  pr : w.cell? ⟨g, 43, none⟩ = some pv
  ch_ : w.cell? ⟨g, 44, none⟩ = some (.int .i64 ch)
  cx_ : w.cell? ⟨g, 45, none⟩ = some (.int .i64 cx)
  cy_ : w.cell? ⟨g, 46, none⟩ = some (.int .i64 cy)
section
variable {w w' : World} {g N : Nat} {pl : Nat → Plc} {pv : Value} {ch cx cy : Int}
theorem KS.lt (h : KS w g N pl pv ch cx cy) : g < w.heap.size := World.block_lt_of_cell? w _ h.n
theorem KS.same (h : KS w g N pl pv ch cx cy) (e : w'.heap[g]? = w.heap[g]?) : KS w' g N pl pv ch cx cy := by
  have hc : ∀ o, w'.cell? ⟨g, o, none⟩ = w.cell? ⟨g, o, none⟩ := fun o => World.cell?_of_block e
  obtain ⟨cs, h1, h2⟩ := h.row
  exact ⟨⟨cs, e.trans h1, h2⟩, (hc _).trans h.n, fun i hi k v hv => (hc _).trans (h.at_ i hi k v hv), (hc _).trans h.pr, (hc _).trans h.ch_, (hc _).trans h.cx_, (hc _).trans h.cy_⟩
theorem KS.ext (h : KS w g N pl pv ch cx cy) (hx : Ext w w') : KS w' g N pl pv ch cx cy := h.same (hx.block g h.lt)
theorem KS.free (h : KS w g N pl pv ch cx cy) (o : Nat) : w.frozen? ⟨g, o, none⟩ = false := by
  obtain ⟨cs, h1, _⟩ := h.row
  exact frozen_of_row w g o _ _ h1
theorem KS.six (h : KS w g N pl pv ch cx cy) {i : Nat} (hi : i < 7) : w.cell? ⟨g, 1 + i * 6, none⟩ = some (.int .i64 (pl i).px) ∧ w.cell? ⟨g, 1 + i * 6 + 1, none⟩ = some (.int .i64 (pl i).py) ∧ w.cell? ⟨g, 1 + i * 6 + 2, none⟩ = some (.int .i64 (pl i).bx) ∧ w.cell? ⟨g, 1 + i * 6 + 3, none⟩ = some (.int .i64 (pl i).yb) ∧ w.cell? ⟨g, 1 + i * 6 + 4, none⟩ = some (.int .u8 ((pl i).st : Int)) ∧ w.cell? ⟨g, 1 + i * 6 + 5, none⟩ = some (.int .i64 (pl i).sq) :=
  ⟨h.at_ i hi 0 _ rfl, h.at_ i hi 1 _ rfl, h.at_ i hi 2 _ rfl, h.at_ i hi 3 _ rfl, h.at_ i hi 4 _ rfl, h.at_ i hi 5 _ rfl⟩
theorem KS.hit (h : KS w g N pl pv ch cx cy) {o : Nat} (v : Value) (ho : o < 47) : (w.setCell ⟨g, o, none⟩ v).cell? ⟨g, o, none⟩ = some v ∧ (∀ o', o' ≠ o → (w.setCell ⟨g, o, none⟩ v).cell? ⟨g, o', none⟩ = w.cell? ⟨g, o', none⟩) ∧ ∃ cs, (w.setCell ⟨g, o, none⟩ v).heap[g]? = some (.cells cs 46 (0, 0)) ∧ cs.size = 47 := by
  obtain ⟨cs, h1, h2⟩ := h.row
  have hr := row_setB (w := w) (g := g) (cs' := cs.setIfInBounds o v) o h1 v rfl
  refine ⟨?_, fun o' ho' => ?_, ⟨_, hr, by rw [Array.size_setIfInBounds]; exact h2⟩⟩
  · rw [cell_of_row _ g o _ _ _ hr, Array.getElem?_setIfInBounds_self_of_lt (by omega)]
  · rw [cell_of_row _ g o' _ _ _ hr, Array.getElem?_setIfInBounds_ne (fun e => ho' e.symm), ← cell_of_row w g o' _ _ _ h1]
theorem KS.place (h : KS w g N pl pv ch cx cy) {i : Nat} (hi : i < 7) {k : Nat} (v : Value) (q : Plc) (hq : plcC q = (plcC (pl i)).set k v) (hk : k < 6) : KS (w.setCell ⟨g, 1 + i * 6 + k, none⟩ v) g N (setP pl i q) pv ch cx cy := by
  obtain ⟨h1, h2, h3⟩ := h.hit (o := 1 + i * 6 + k) v (by omega)
  refine ⟨h3, (h2 _ (by omega)).trans h.n, fun j hj m u hu => ?_, (h2 _ (by omega)).trans h.pr, (h2 _ (by omega)).trans h.ch_, (h2 _ (by omega)).trans h.cx_, (h2 _ (by omega)).trans h.cy_⟩
  have hm : m < 6 := (List.getElem?_eq_some_iff.1 hu).1
  by_cases hji : j = i
  · subst hji
    rw [setP_same, hq] at hu
    by_cases hmk : m = k
    · subst hmk
      rw [List.getElem?_set_self (by exact hk)] at hu
      rw [h1]
      exact hu
    · rw [List.getElem?_set_ne (fun e => hmk e.symm)] at hu
      rw [h2 _ (by omega)]
      exact h.at_ j hj m u hu
  · rw [setP_other _ _ hji] at hu
    rw [h2 _ (by omega)]
    exact h.at_ j hj m u hu
theorem KS.setPr (h : KS w g N pl pv ch cx cy) (v : Value) : KS (w.setCell ⟨g, 43, none⟩ v) g N pl v ch cx cy := by
  obtain ⟨h1, h2, h3⟩ := h.hit (o := 43) v (by omega)
  exact ⟨h3, (h2 _ (by omega)).trans h.n, fun j hj m u hu => by
    have hm : m < 6 := (List.getElem?_eq_some_iff.1 hu).1
    rw [h2 _ (by omega)]
    exact h.at_ j hj m u hu, h1, (h2 _ (by omega)).trans h.ch_, (h2 _ (by omega)).trans h.cx_, (h2 _ (by omega)).trans h.cy_⟩
theorem KS.setCh (h : KS w g N pl pv ch cx cy) (c : Int) : KS (w.setCell ⟨g, 44, none⟩ (.int .i64 c)) g N pl pv c cx cy := by
  obtain ⟨h1, h2, h3⟩ := h.hit (o := 44) (.int .i64 c) (by omega)
  exact ⟨h3, (h2 _ (by omega)).trans h.n, fun j hj m u hu => by
    have hm : m < 6 := (List.getElem?_eq_some_iff.1 hu).1
    rw [h2 _ (by omega)]
    exact h.at_ j hj m u hu, (h2 _ (by omega)).trans h.pr, h1, (h2 _ (by omega)).trans h.cx_, (h2 _ (by omega)).trans h.cy_⟩
theorem KS.setB (h : KS w g N pl pv ch cx cy) (x y : Int) : KS ((w.setCell ⟨g, 45, none⟩ (.int .i64 x)).setCell ⟨g, 46, none⟩ (.int .i64 y)) g N pl pv ch x y := by
  obtain ⟨h1, h2, h3⟩ := h.hit (o := 45) (.int .i64 x) (by omega)
  have h' : KS (w.setCell ⟨g, 45, none⟩ (.int .i64 x)) g N pl pv ch x cy := ⟨h3, (h2 _ (by omega)).trans h.n, fun j hj m u hu => by
    have hm : m < 6 := (List.getElem?_eq_some_iff.1 hu).1
    rw [h2 _ (by omega)]
    exact h.at_ j hj m u hu, (h2 _ (by omega)).trans h.pr, (h2 _ (by omega)).trans h.ch_, h1, (h2 _ (by omega)).trans h.cy_⟩
  obtain ⟨k1, k2, k3⟩ := h'.hit (o := 46) (.int .i64 y) (by omega)
  exact ⟨k3, (k2 _ (by omega)).trans h'.n, fun j hj m u hu => by
    have hm : m < 6 := (List.getElem?_eq_some_iff.1 hu).1
    rw [k2 _ (by omega)]
    exact h'.at_ j hj m u hu, (k2 _ (by omega)).trans h'.pr, (k2 _ (by omega)).trans h'.ch_, (k2 _ (by omega)).trans h'.cx_, k1⟩
theorem KS.off (h : KS w g N pl pv ch cx cy) {b o : Nat} {v : Value} (hb : b ≠ g) : KS (w.setCell ⟨b, o, none⟩ v) g N pl pv ch cx cy := h.same (by
  obtain ⟨cs, h1, _⟩ := h.row
  rw [h1]
  exact heap_mod h1 (Mod.setCell (F := fun k => k = b) (Mod.refl (fun k => k = b) w) (p := ⟨b, o, none⟩) (.inl rfl) v) (fun e => hb e.symm))
end
abbrev PRow (w : World) (g : Nat) (pv : Value) (prs : List PrQ) : Prop := w.ownsRow (g + 1) 73 4 pv prs.length (prs.flatMap PrQ.cells)
theorem PRow.at_ {w : World} {g : Nat} {pv : Value} {prs : List PrQ} (h : PRow w g pv prs) {k : Nat} {p : PrQ} (hk : prs[k]? = some p) :
    ∃ q cap, pv = .slice (some ⟨q, 0, none⟩) prs.length cap ∧ g + 1 ≤ q ∧ prs.length ≤ cap ∧ (∃ cur, w.heap[q]? = some (.cells cur 73 (0, 0))) ∧ w.cell? ⟨q, k * 4, none⟩ = some (.int .i64 p.x) ∧ w.cell? ⟨q, k * 4 + 1, none⟩ = some (.int .i64 p.y) ∧ w.cell? ⟨q, k * 4 + 2, none⟩ = some (.int .i64 p.sq) ∧ w.cell? ⟨q, k * 4 + 3, none⟩ = some (.int .u8 (p.by_ : Int)) := by
  have hlt : k < prs.length := (List.getElem?_eq_some_iff.1 hk).1
  obtain ⟨A, c, hv, hL⟩ := Ls.of_own (cells := PrQ.cells) (fun _ => rfl) (by omega) h
  rcases h.2 with ⟨rfl, hz⟩ | ⟨q, cap, cur, rfl, hB, hg, hn, hm, hs, ht⟩
  · omega
  · injection hv with h1 h2 h3
    subst h1 h3
    obtain ⟨g', o', e1, _, hc⟩ := hL.rd (by omega)
    injection e1 with e1
    injection e1 with e1 e2
    subst e1 e2
    have hc := hc k p hk
    have h0 := hc 0 _ rfl
    have h1 := hc 1 _ rfl
    have h2 := hc 2 _ rfl
    have h3 := hc 3 _ rfl
    rw [Nat.zero_add] at h0 h1 h2 h3
    exact ⟨q, cap, rfl, hB, hn, ⟨cur, hg⟩, h0, h1, h2, h3⟩
theorem flat_set {k : Nat} {p : PrQ} {s : Nat} : ∀ {prs : List PrQ}, prs[k]? = some p → (prs.set k { p with by_ := s }).flatMap PrQ.cells = (prs.flatMap PrQ.cells).set (k * 4 + 3) (.int .u8 (s : Int)) := by
  induction k with
  | zero =>
    intro prs h
    cases prs with
    | nil => cases h
    | cons a l =>
      obtain rfl : a = p := Option.some.inj h
      rfl
  | succ k ih =>
    intro prs h
    cases prs with
    | nil => cases h
    | cons a l =>
      have h' : l[k]? = some p := h
      rw [List.set_cons_succ, List.flatMap_cons, List.flatMap_cons, ih h', show (k + 1) * 4 + 3 = (k * 4 + 3) + 4 by omega]
      rfl
theorem PRow.set {w : World} {g : Nat} {pv : Value} {prs : List PrQ} (h : PRow w g pv prs) {k : Nat} {p : PrQ} (hk : prs[k]? = some p) (s : Nat) {q cap : Nat} (hv : pv = .slice (some ⟨q, 0, none⟩) prs.length cap) :
    PRow (w.setCell ⟨q, k * 4 + 3, none⟩ (.int .u8 (s : Int))) g pv (prs.set k { p with by_ := s }) := by
  have hlt : k < prs.length := (List.getElem?_eq_some_iff.1 hk).1
  rcases h.2 with ⟨rfl, hz⟩ | ⟨q', cap', cur, rfl, hB, hg, hn, hm, hs, ht⟩
  · cases hv
  · injection hv with h1 h2 h3
    injection h1 with h1
    injection h1 with h1
    subst h1 h3
    have hr := row_setB (w := w) (g := q') (cs' := cur.setIfInBounds (k * 4 + 3) (.int .u8 (s : Int))) (k * 4 + 3) hg (.int .u8 (s : Int)) rfl
    refine ⟨?_, .inr ⟨q', cap', _, by rw [List.length_set], hB, hr, by rw [List.length_set]; exact hn, hm, by rw [Array.size_setIfInBounds]; exact hs, ?_⟩⟩
    · rw [flat_set hk, List.length_set, List.length_set]
      exact h.1
    · rw [List.length_set, flat_set hk, ← ht, Array.toList_setIfInBounds, List.take_set]
end
section
open Go Go.RowKit
def bl (s : ByteArray) : List Nat := s.data.toList.map UInt8.toNat
end
section
open Go
def num : List Nat → Nat
  | [] => 0
  | b :: r => b + 256 * num r
end
section
open Go
def tx (s : ByteArray) : List Nat := s.size :: bl s
end
section
open Go
structure Rec where
  st : Nat := 0
  ix : Int := 0
  bx : Int := 0
  yb : Int := 0
  wh : Int := 0
instance : Inhabited Rec := ⟨{}⟩
structure CopL where
  st : Nat := 0
  ix : Int := 0
  bx : Int := 0
  yb : Int := 0
  e : Ent := {}
instance : Inhabited CopL := ⟨{}⟩
def Rec.of (p : Rec) (i : Int) : Prop := p.st = 1 ∧ p.ix = i
def CopL.of (c : CopL) (i : Int) : Prop := c.st = 1 ∧ c.ix = i
def gtL (x y a b : Int) : Prop := a < x ∨ (a = x ∧ b < y)
instance (p : Rec) (i : Int) : Decidable (p.of i) := by unfold Rec.of; exact inferInstance
instance (c : CopL) (i : Int) : Decidable (c.of i) := by unfold CopL.of; exact inferInstance
instance (x y a b : Int) : Decidable (gtL x y a b) := by unfold gtL; exact inferInstance
def beyL (p : Rec) (f0 f1 : CopL) (i : Int) : Prop := (p.st = 1 ∧ i < p.ix) ∨ (f0.st = 1 ∧ i < f0.ix) ∨ (f1.st = 1 ∧ i < f1.ix)
def badL (f0 f1 : CopL) : Prop := f0.st = 2 ∨ f1.st = 2
instance (p : Rec) (f0 f1 : CopL) (i : Int) : Decidable (beyL p f0 f1 i) := by unfold beyL; exact inferInstance
instance (f0 f1 : CopL) : Decidable (badL f0 f1) := by unfold badL; exact inferInstance
def candL (p : Rec) (c : CopL) (i : Int) : Prop := c.of i ∧ ¬ gtL p.bx p.yb c.bx c.yb
instance (p : Rec) (c : CopL) (i : Int) : Decidable (candL p c i) := by unfold candL; exact inferInstance
end
section
open Go Go.RowKit
def setL (w : World) (g : Nat) : Nat → List Value → World
  | _, [] => w
  | o, x :: xs => setL (w.setCell ⟨g, o, none⟩ x) g (o + 1) xs
def setA (cs : Array Value) : Nat → List Value → Array Value
  | _, [] => cs
  | o, x :: xs => setA (cs.setIfInBounds o x) (o + 1) xs
theorem row_set1 {w : World} {g i : Nat} {cs : Array Value} {t : TypeId} (h : w.heap[g]? = some (.cells cs t (0, 0))) (v : Value) : (w.setCell ⟨g, i, none⟩ v).heap[g]? = some (.cells (cs.setIfInBounds i v) t (0, 0)) := by
  rw [setCell_eq_setRow w g i _ _ _ v h]
  exact setRow_heap w g _ (cs.setIfInBounds i v) _ _ h
theorem row_setL {g : Nat} {t : TypeId} : ∀ (xs : List Value) (w : World) (o : Nat) (cs : Array Value), w.heap[g]? = some (.cells cs t (0, 0)) → (setL w g o xs).heap[g]? = some (.cells (setA cs o xs) t (0, 0))
  | [], _, _, _, h => h
  | x :: xs, _, o, _, h => row_setL xs _ (o + 1) _ (row_set1 h x)
end
section
open Go Go.RowKit
theorem setCells_eq (g : Nat) : ∀ (vs : List Value) (w : World) (o : Nat), w.setCells g o vs = setL w g o vs
  | [], _, _ => rfl
  | _ :: vs, _, o => setCells_eq g vs _ (o + 1)
theorem there_row {w : World} {g : Nat} {cs : Array Value} {t : TypeId} (h : w.heap[g]? = some (.cells cs t (0, 0))) (o n : Nat) (hn : o + n ≤ cs.size) : w.there g o n := fun j hj => by
  refine ⟨?_, frozen_of_row w g (o + j) _ _ h⟩
  rw [cell_of_row w g (o + j) _ _ _ h, Array.getElem?_eq_getElem (by omega)]
  rfl
theorem row_setCells {w : World} {g : Nat} {cs : Array Value} {t : TypeId} (h : w.heap[g]? = some (.cells cs t (0, 0))) (o : Nat) (vs : List Value) : (w.setCells g o vs).heap[g]? = some (.cells (setA cs o vs) t (0, 0)) := by
  rw [setCells_eq]
  exact row_setL vs w o cs h
end
section
open Go Go.RowKit
variable {P : Program}
end
section
open Go Go.RowKit
def repP (p : Plc) : Rpt := if p.st = 0 then ⟨0, 1, 0, 0, {}⟩ else if p.st = 2 then ⟨0, 2, p.bx, p.yb, { k := 2, sq := p.sq }⟩ else if p.st = 3 then ⟨0, 3, p.bx, p.yb, {}⟩ else ⟨0, 4, 0, 0, {}⟩
def repQ (pl : Nat → Plc) (Q : Nat → Bool) (i : Nat) : Rpt := if Q i then repP (pl i) else {}
def repsQ (N : Nat) (pl : Nat → Plc) (Q : Nat → Bool) : List Rpt := (List.range N).map (repQ pl Q)
theorem repQ_no {pl : Nat → Plc} {Q : Nat → Bool} {i : Nat} (h : Q i = false) : repQ pl Q i = {} := by unfold repQ; rw [h]; rfl
theorem repQ_yes {pl : Nat → Plc} {Q : Nat → Bool} {i : Nat} (h : Q i = true) : repQ pl Q i = repP (pl i) := by unfold repQ; rw [h]; rfl
theorem repP_st {p : Plc} (h : p.st = 0 ∨ p.st = 2 ∨ p.st = 3 ∨ p.st = 4) : (p.st = 0 ∧ repP p = ⟨0, 1, 0, 0, {}⟩) ∨ (p.st = 2 ∧ repP p = ⟨0, 2, p.bx, p.yb, { k := 2, sq := p.sq }⟩) ∨ (p.st = 3 ∧ repP p = ⟨0, 3, p.bx, p.yb, {}⟩) ∨ (p.st = 4 ∧ repP p = ⟨0, 4, 0, 0, {}⟩) := by
  unfold repP
  rcases h with h | h | h | h
  · exact .inl ⟨h, by rw [if_pos h]⟩
  · exact .inr (.inl ⟨h, by rw [if_neg (by omega), if_pos h]⟩)
  · exact .inr (.inr (.inl ⟨h, by rw [if_neg (by omega), if_neg (by omega), if_pos h]⟩))
  · exact .inr (.inr (.inr ⟨h, by rw [if_neg (by omega), if_neg (by omega), if_neg (by omega)]⟩))
theorem countP_reps (N : Nat) (pl : Nat → Plc) (Q : Nat → Bool) (p : Rpt → Bool) : (repsQ N pl Q).countP p = cnt N fun i => p (repQ pl Q i) := by
  unfold repsQ cnt
  rw [List.countP_map, List.countP_eq_length_filter]
  rfl
theorem cnt_not (n : Nat) (p : Nat → Bool) : cnt n p + cnt n (fun i => !p i) = n := by
  induction n with
  | zero => rfl
  | succ n ih =>
    rw [cnt_succ, cnt_succ]
    cases p n <;> simp <;> omega
theorem reps_mem {N : Nat} {pl : Nat → Plc} {Q : Nat → Bool} {r : Rpt} (h : r ∈ repsQ N pl Q) : ∃ i, i < N ∧ r = repQ pl Q i := by
  obtain ⟨i, hi, e⟩ := List.mem_map.1 h
  exact ⟨i, List.mem_range.1 hi, e.symm⟩
theorem mem_reps {N : Nat} {pl : Nat → Plc} {Q : Nat → Bool} {i : Nat} (h : i < N) : repQ pl Q i ∈ repsQ N pl Q := List.mem_map.2 ⟨i, List.mem_range.2 h, rfl⟩
theorem reps_two {pl : Nat → Plc} {Q : Nat → Bool} {i : Nat} (hr : (pl i).st = 0 ∨ (pl i).st = 2 ∨ (pl i).st = 3 ∨ (pl i).st = 4) (h : (repQ pl Q i).st = 2) : Q i = true ∧ (pl i).st = 2 ∧ repQ pl Q i = ⟨0, 2, (pl i).bx, (pl i).yb, { k := 2, sq := (pl i).sq }⟩ := by
  cases hq : Q i with
  | false => rw [repQ_no hq] at h; cases h
  | true =>
    rw [repQ_yes hq] at h ⊢
    rcases repP_st hr with ⟨h1, e⟩ | ⟨h1, e⟩ | ⟨h1, e⟩ | ⟨h1, e⟩
    · rw [e] at h; cases h
    · exact ⟨rfl, h1, e⟩
    · rw [e] at h; cases h
    · rw [e] at h; cases h
theorem ok_reps {N : Nat} {pl : Nat → Plc} {Q : Nat → Bool} (hN : N = 3 ∨ N = 5 ∨ N = 7) (hr : ∀ i, i < N → (pl i).st = 0 ∨ (pl i).st = 2 ∨ (pl i).st = 3 ∨ (pl i).st = 4) : okR (N : Int) (repsQ N pl Q) = true := by
  refine okR_iff.2 ⟨by omega, by unfold repsQ; rw [List.length_map, List.length_range], fun r hrm => ?_⟩
  obtain ⟨i, hi, rfl⟩ := reps_mem hrm
  cases hq : Q i with
  | false => rw [repQ_no hq]; decide
  | true =>
    rw [repQ_yes hq]
    rcases repP_st (hr i hi) with ⟨_, e⟩ | ⟨_, e⟩ | ⟨_, e⟩ | ⟨_, e⟩ <;> rw [e] <;> simp
theorem ltB_bLt {a b c d : Int} : ltB ⟨a, b⟩ ⟨c, d⟩ = true ↔ bLt a b c d := ltB_iff
theorem sure_of {N : Nat} {pl : Nat → Plc} {Q : Nat → Bool} (hN : N = 3 ∨ N = 5 ∨ N = 7) (hr : ∀ i, i < N → (pl i).st = 0 ∨ (pl i).st = 2 ∨ (pl i).st = 3 ∨ (pl i).st = 4) (hx : (decR (N : Int) (repsQ N pl Q)).1 ≠ 0) : sureC N pl Q ∨ ∀ i, i < N → Q i = true := by
  rw [dec_is (ok_reps hN hr)] at hx
  have hlen : (repsQ N pl Q).length = N := by unfold repsQ; rw [List.length_map, List.length_range]
  cases hw : waitR (repsQ N pl Q) with
  | true => rw [hw] at hx; exact absurd rfl hx
  | false =>
    unfold waitR at hw
    rw [hlen, Bool.and_eq_false_iff] at hw
    have hunk : ∀ i, i < N → unkR (repQ pl Q i) = !(Q i && decide ((pl i).st ≠ 4)) := fun i hi => by
      cases hq : Q i with
      | false => rw [repQ_no hq]; rfl
      | true =>
        rw [repQ_yes hq]
        rcases repP_st (hr i hi) with ⟨h, e⟩ | ⟨h, e⟩ | ⟨h, e⟩ | ⟨h, e⟩ <;> rw [e, h] <;> rfl
    rcases hw with hw | hw
    · left
      rw [undR_not, countP_reps] at hw
      have hc : cnt N (fun i => unkR (repQ pl Q i)) = cnt N (fun i => !(Q i && decide ((pl i).st ≠ 4))) := Nat.le_antisymm (cnt_mono fun i hi h => by rw [← hunk i hi]; exact h) (cnt_mono fun i hi h => by rw [hunk i hi]; exact h)
      have hn := cnt_not N fun i => Q i && decide ((pl i).st ≠ 4)
      have hm : cnt N (fun i => !(Q i && decide ((pl i).st ≠ 4))) < N / 2 + 1 := by rw [← hc]; exact hw.1
      refine ⟨by unfold mostN; omega, fun i hi hq h3 hab => ?_⟩
      have hri : repQ pl Q i = ⟨0, 3, (pl i).bx, (pl i).yb, {}⟩ := by
        rw [repQ_yes hq]
        rcases repP_st (hr i hi) with ⟨h, e⟩ | ⟨h, e⟩ | ⟨h, e⟩ | ⟨h, e⟩
        · omega
        · omega
        · exact e
        · omega
      have h5 := hw.2 (repQ pl Q i) (mem_reps hi) (by rw [hri]) (by
        cases hb : bestR (repsQ N pl Q) with
        | none => rfl
        | some q =>
          obtain ⟨m, s, _⟩ := bestR_some hb
          obtain ⟨g, hg, e⟩ := reps_mem m
          rw [e] at s
          obtain ⟨hqg, hg2, eg⟩ := reps_two (hr g hg) s
          show ltB q.b (repQ pl Q i).b = true
          rw [e, eg, hri]
          exact ltB_bLt.2 (hab g hg hqg hg2))
      rw [hri] at h5
      unfold lostGe at h5
      rw [countP_reps] at h5
      unfold mayC mostN
      refine Nat.lt_of_le_of_lt (cnt_or (p := fun k => unkR (repQ pl Q k)) (q := fun k => decide ((repQ pl Q k).st = 3) && !ltB (repQ pl Q k).b (Rpt.b ⟨0, 3, (pl i).bx, (pl i).yb, {}⟩)) fun k hk h => ?_) h5
      rw [Bool.or_eq_true, Bool.or_eq_true, Bool.and_eq_true, decide_eq_true_iff, decide_eq_true_iff, decide_eq_true_iff] at h
      rcases h with (h | h) | h
      · left
        rw [hunk k hk]
        have : Q k = false := by simpa using h
        rw [this]
        rfl
      · left
        rw [hunk k hk, decide_eq_false (by simpa using h), Bool.and_false]
        rfl
      · cases hqk : Q k with
        | false =>
          left
          rw [hunk k hk, hqk]
          rfl
        | true =>
          right
          have hrk : repQ pl Q k = ⟨0, 3, (pl k).bx, (pl k).yb, {}⟩ := by
            rw [repQ_yes hqk]
            rcases repP_st (hr k hk) with ⟨h', e⟩ | ⟨h', e⟩ | ⟨h', e⟩ | ⟨h', e⟩
            · omega
            · omega
            · exact e
            · omega
          show (decide ((repQ pl Q k).st = 3) && !ltB (repQ pl Q k).b (Rpt.b ⟨0, 3, (pl i).bx, (pl i).yb, {}⟩)) = true
          rw [hrk]
          show (true && !ltB ⟨(pl k).bx, (pl k).yb⟩ ⟨(pl i).bx, (pl i).yb⟩) = true
          have : ltB ⟨(pl k).bx, (pl k).yb⟩ ⟨(pl i).bx, (pl i).yb⟩ = false := by
            rw [← Bool.not_eq_true, ltB_bLt]
            exact h.2
          rw [this]
          rfl
    · right
      intro i hi
      cases hq : Q i with
      | true => rfl
      | false =>
        have := List.any_eq_false.1 hw (repQ pl Q i) (mem_reps hi)
        rw [repQ_no hq] at this
        exact absurd rfl this
theorem value_of {N : Nat} {pl : Nat → Plc} {Q : Nat → Bool} (hN : N = 3 ∨ N = 5 ∨ N = 7) (hr : ∀ i, i < N → (pl i).st = 0 ∨ (pl i).st = 2 ∨ (pl i).st = 3 ∨ (pl i).st = 4) (hx : (decR (N : Int) (repsQ N pl Q)).1 = 2) :
    ∃ g, g < N ∧ Q g = true ∧ (pl g).st = 2 ∧ (∀ i, i < N → Q i = true → (pl i).st = 2 → bLe (pl i).bx (pl i).yb (pl g).bx (pl g).yb) ∧ (decR (N : Int) (repsQ N pl Q)).2.sq = (pl g).sq := by
  rw [dec_is (ok_reps hN hr)] at hx ⊢
  cases hw : waitR (repsQ N pl Q) with
  | true => rw [hw] at hx; cases hx
  | false =>
    cases hb : bestR (repsQ N pl Q) with
    | none => rw [hw, hb] at hx; cases hx
    | some q =>
      obtain ⟨m, s, mx⟩ := bestR_some hb
      obtain ⟨g, hg, e⟩ := reps_mem m
      rw [e] at s
      obtain ⟨hqg, hg2, eg⟩ := reps_two (hr g hg) s
      refine ⟨g, hg, hqg, hg2, fun i hi hqi hi2 => ?_, by show q.e.sq = _; rw [e, eg]⟩
      have hri : repQ pl Q i = ⟨0, 2, (pl i).bx, (pl i).yb, { k := 2, sq := (pl i).sq }⟩ := by
        rw [repQ_yes hqi]
        rcases repP_st (hr i hi) with ⟨h', e⟩ | ⟨h', e⟩ | ⟨h', e⟩ | ⟨h', e⟩
        · omega
        · exact e
        · omega
        · omega
      have := mx (repQ pl Q i) (mem_reps hi) (by rw [hri])
      rw [e, eg, hri] at this
      intro hl
      have h5 : ltB ⟨(pl g).bx, (pl g).yb⟩ ⟨(pl i).bx, (pl i).yb⟩ = false := this
      rw [ltB_bLt.2 hl] at h5
      cases h5
theorem noop_of {N : Nat} {pl : Nat → Plc} {Q : Nat → Bool} (hN : N = 3 ∨ N = 5 ∨ N = 7) (hr : ∀ i, i < N → (pl i).st = 0 ∨ (pl i).st = 2 ∨ (pl i).st = 3 ∨ (pl i).st = 4) (hx : (decR (N : Int) (repsQ N pl Q)).1 = 1) : ∀ i, i < N → Q i = true → (pl i).st ≠ 2 := by
  rw [dec_is (ok_reps hN hr)] at hx
  intro i hi hqi hi2
  have hri : repQ pl Q i = ⟨0, 2, (pl i).bx, (pl i).yb, { k := 2, sq := (pl i).sq }⟩ := by
    rw [repQ_yes hqi]
    rcases repP_st (hr i hi) with ⟨h', e⟩ | ⟨h', e⟩ | ⟨h', e⟩ | ⟨h', e⟩
    · omega
    · exact e
    · omega
    · omega
  cases hw : waitR (repsQ N pl Q) with
  | true => rw [hw] at hx; cases hx
  | false =>
    cases hb : bestR (repsQ N pl Q) with
    | none => exact bestR_none hb (repQ pl Q i) (mem_reps hi) (by rw [hri])
    | some q => rw [hw, hb] at hx; cases hx
def rowR (k : Nat) : Obj := .cells (madeCells (rptC {}).toArray (k * 11)) 54 (0, 0)
theorem mk_reports (k : Nat) (hk : k ≤ 1000) (w : World) : (Instr.makeSlice 22 (.int .i64 (k : Int)) (.int .i64 (k : Int))).run Try.prog w = .ok (.slice (some ⟨w.heap.size, 0, none⟩) k k) (w.alloc (rowR k)) := by
  obtain ⟨i0, hi, hz0, hz1, hz2⟩ := info_parts report_info
  rw [run_make w 22 54 i0 _ Try.underlying22 hi hz0 .i64 .i64 (k : Int) (k : Int) (by omega) (Int.le_refl _) (by rw [hz2]; omega) (by omega), hz1, Int.toNat_natCast]
  rfl
theorem setA_sizeR : ∀ (xs : List Value) (cs : Array Value) (o : Nat), (setA cs o xs).size = cs.size
  | [], _, _ => rfl
  | x :: xs, cs, o => by
    show (setA (cs.setIfInBounds o x) (o + 1) xs).size = _
    rw [setA_sizeR xs, Array.size_setIfInBounds]
structure RW (w : World) (r N : Nat) (f : Nat → Rpt) : Prop where
  row : ∃ cs, w.heap[r]? = some (.cells cs 54 (0, 0)) ∧ cs.size = N * 11
  at_ : ∀ i, i < N → ∀ k v, (rptC (f i))[k]? = some v → w.cell? ⟨r, i * 11 + k, none⟩ = some v
section
variable {w w' : World} {r N : Nat} {f : Nat → Rpt}
theorem RW.made (w : World) (N : Nat) : RW (w.alloc (rowR N)) w.heap.size N (fun _ => {}) := by
  have hr := heap_alloc_new w (rowR N)
  have hs : (madeCells (rptC {}).toArray (N * 11)).size = N * 11 := size_madeCells _ _
  refine ⟨⟨_, hr, hs⟩, fun i hi k v hv => ?_⟩
  have hk : k < 11 := (List.getElem?_eq_some_iff.1 hv).1
  rw [cell_of_row _ w.heap.size (i * 11 + k) _ _ _ hr]
  unfold madeCells
  rw [Array.getElem?_map, Array.getElem?_range, if_pos (by omega)]
  have e : (i * 11 + k) % (rptC ({} : Rpt)).toArray.size = k := by
    show (i * 11 + k) % 11 = k
    omega
  simp only [Option.map_some]
  rw [e, ← hv]
  match k, hk with
  | 0, _ | 1, _ | 2, _ | 3, _ | 4, _ | 5, _ | 6, _ | 7, _ | 8, _ | 9, _ | 10, _ => rfl
theorem RW.same (h : RW w r N f) (e : w'.heap[r]? = w.heap[r]?) : RW w' r N f := by
  obtain ⟨cs, h1, h2⟩ := h.row
  exact ⟨⟨cs, e.trans h1, h2⟩, fun i hi k v hv => (World.cell?_of_block e).trans (h.at_ i hi k v hv)⟩
theorem RW.lt (h : RW w r N f) : r < w.heap.size := by
  obtain ⟨cs, h1, _⟩ := h.row
  exact (Array.getElem?_eq_some_iff.1 h1).1
theorem RW.ext (h : RW w r N f) (hx : Ext w w') : RW w' r N f := h.same (hx.block r h.lt)
theorem RW.mod (h : RW w r N f) {g : Nat} (hm : Mod (fun k => k = g) w w') (hg : r ≠ g) : RW w' r N f := by
  obtain ⟨cs, h1, _⟩ := h.row
  refine h.same ?_
  rw [h1]
  exact heap_mod h1 hm hg
theorem RW.there (h : RW w r N f) {i o n : Nat} (hi : i < N) (ho : o + n ≤ 11) : w.there r (i * 11 + o) n := by
  obtain ⟨cs, h1, h2⟩ := h.row
  exact there_row h1 _ _ (by omega)
theorem RW.sub (h : RW w r N f) {i : Nat} (hi : i < N) (o : Nat) (vs : List Value) (q : Rpt) (ho : o + vs.length ≤ 11) (h1 : ∀ k, k < vs.length → (rptC q)[o + k]? = vs[k]?) (h2 : ∀ k, k < o ∨ o + vs.length ≤ k → (rptC q)[k]? = (rptC (f i))[k]?) : RW (w.setCells r (i * 11 + o) vs) r N (fun j => if j = i then q else f j) := by
  have hth := h.there (o := o) (n := vs.length) hi ho
  obtain ⟨cs, hr, hs⟩ := h.row
  refine ⟨⟨_, row_setCells hr _ _, ?_⟩, fun j hj k v hv => ?_⟩
  · rw [setA_sizeR]
    exact hs
  · have hk : k < 11 := by
      exact (List.getElem?_eq_some_iff.1 hv).1
    by_cases hji : j = i
    · subst hji
      have hv : (rptC q)[k]? = some v := by
        have h5 : (rptC (if j = j then q else f j))[k]? = some v := hv
        rw [if_pos rfl] at h5
        exact h5
      by_cases hin : o ≤ k ∧ k < o + vs.length
      · obtain ⟨d, rfl⟩ : ∃ d, k = o + d := ⟨k - o, by omega⟩
        rw [h1 d (by omega)] at hv
        rw [← Nat.add_assoc, World.cell?_setCells_in r vs (j * 11 + o) w (fun i hi => (hth i hi).1) d (by omega)]
        rw [List.getElem?_eq_getElem (show d < vs.length by omega)] at hv
        exact hv
      · rw [h2 k (by omega)] at hv
        rw [World.cell?_setCells_out r vs (j * 11 + o) w ⟨r, j * 11 + k, none⟩ (fun _ _ => by
          rcases Nat.lt_or_ge k o with h | h
          · left
            show j * 11 + k < j * 11 + o
            omega
          · right
            show j * 11 + o + vs.length ≤ j * 11 + k
            omega)]
        exact h.at_ j hj k v hv
    · have hv : (rptC (f j))[k]? = some v := by
        have h5 : (rptC (if j = i then q else f j))[k]? = some v := hv
        rw [if_neg hji] at h5
        exact h5
      rw [World.cell?_setCells_out r vs (i * 11 + o) w ⟨r, j * 11 + k, none⟩ (fun _ _ => by
        rcases Nat.lt_or_ge j i with h | h
        · left
          show j * 11 + k < i * 11 + o
          omega
        · right
          show i * 11 + o + vs.length ≤ j * 11 + k
          omega)]
      exact h.at_ j hj k v hv
theorem RW.list (h : RW w r N f) (h0 : 0 < N) (hN : N ≤ 1000) : Ls rptC 11 w w.heap.size (some ⟨r, 0, none⟩) N N ((List.range N).map f) := by
  refine ⟨by rw [List.length_map, List.length_range], Nat.le_refl _, by omega, fun _ => ⟨r, 0, rfl, h.lt, fun j a ha k v hv => ?_⟩, fun e => by cases e⟩
  rw [List.getElem?_map] at ha
  obtain ⟨i, hi, rfl⟩ := Option.map_eq_some_iff.1 ha
  obtain ⟨h1, h2⟩ := List.getElem?_eq_some_iff.1 hi
  rw [List.length_range] at h1
  rw [List.getElem_range] at h2
  subst h2
  rw [Nat.zero_add]
  exact h.at_ j h1 k v hv
end
end
end Go.Proofs.Ytinflpheogglhaa

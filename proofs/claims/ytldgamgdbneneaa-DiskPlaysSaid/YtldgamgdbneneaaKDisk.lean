/-
  What it means that the program's disk at a pointer is a disk in plain words.
-/
import Derived.Test.YtldgamgdbneneaaProg
import Derived.Test.YtldgamgdbneneaaKMod
import Derived.Test.YtldgamgdbneneaaDFacts
import Derived.Deep.MidRow
namespace Go.Proofs.Ytldgamgdbneneaa
set_option maxRecDepth 100000
open Go Go.RowKit

/-- The cells of a sector behind the cache, and of a write. -/
def secC (r m : List Nat) (l : Bool) : List Value := vb r ++ (vb m ++ [.bool l])
def wriC (x : Nat × List Nat) : List Value := vb x.2 ++ [.int .i64 (x.1 : Int)]
def penC (l : List (Nat × List Nat)) : List Value := l.flatMap wriC
def DM.sec (m : DM) (s : Nat) : List Value := secC (m.rest.getD s []) (m.meant.getD s []) (m.lost.getD s false)
def stOf (m : DM) : Int := if m.down = true then 2 else if m.dead = true then 1 else 0

theorem secC_len {r m : List Nat} {l : Bool} (hr : r.length = 64) (hm : m.length = 64) : (secC r m l).length = 129 := by simp [secC, vb_length, hr, hm]
theorem wriC_len {x : Nat × List Nat} (h : x.2.length = 64) : (wriC x).length = 65 := by simp [wriC, vb_length, h]
theorem penC_len : ∀ {l : List (Nat × List Nat)}, (∀ x ∈ l, x.2.length = 64) → (penC l).length = l.length * 65
  | [], _ => rfl
  | x :: l, h => by
    show (wriC x ++ penC l).length = _
    rw [List.length_append, wriC_len (h x (by simp)), penC_len (fun y hy => h y (by simp [hy]))]
    simp only [List.length_cons]; omega
theorem penC_snoc (l : List (Nat × List Nat)) (x : Nat × List Nat) : penC (l ++ [x]) = penC l ++ wriC x := by simp [penC]
theorem penC_get : ∀ {l : List (Nat × List Nat)} {i : Nat} {x : Nat × List Nat}, (∀ x ∈ l, x.2.length = 64) → l[i]? = some x → ∀ j v, (wriC x)[j]? = some v → (penC l)[i * 65 + j]? = some v
  | [], i, x, _, h => by simp at h
  | y :: l, 0, x, hl, h => by
    intro j v hv
    simp only [List.getElem?_cons_zero, Option.some.injEq] at h
    subst h
    show (wriC y ++ penC l)[0 * 65 + j]? = _
    have hj : j < (wriC y).length := (List.getElem?_eq_some_iff.1 hv).1
    rw [Nat.zero_mul, Nat.zero_add, List.getElem?_append_left hj]
    exact hv
  | y :: l, i + 1, x, hl, h => by
    intro j v hv
    have ih := penC_get (fun z hz => hl z (by simp [hz])) (show l[i]? = some x by simpa using h) j v hv
    show (wriC y ++ penC l)[(i + 1) * 65 + j]? = _
    have h65 := wriC_len (hl y (by simp))
    rw [List.getElem?_append_right (by omega), h65, show (i + 1) * 65 + j - 65 = i * 65 + j by omega]
    exact ih

theorem vb_oneA (l : List Nat) : ∀ u ∈ vb l, u.oneCell' = true := vb_one l
theorem wriC_one (x : Nat × List Nat) : ∀ u ∈ wriC x, u.oneCell' = true := by
  intro u hu
  simp only [wriC, List.mem_append, List.mem_singleton] at hu
  rcases hu with hu | rfl
  · exact vb_one _ u hu
  · rfl
theorem secC_one (r m : List Nat) (l : Bool) : ∀ u ∈ secC r m l, u.oneCell' = true := by
  intro u hu
  simp only [secC, List.mem_append, List.mem_singleton] at hu
  rcases hu with hu | hu | rfl
  · exact vb_one _ u hu
  · exact vb_one _ u hu
  · rfl

/-- The sectors lie in block g. -/
def MedAt (w : World) (g : Nat) (m : DM) : Prop := ∃ cur : Array Value, w.heap[g]? = some (.cells cur 76 (0, 0)) ∧ cur.size = m.size * 129 ∧ ∀ s, s < m.size → ∀ j v, (m.sec s)[j]? = some v → cur[s * 129 + j]? = some v
/-- The disk at block d: its sectors in block g, its pending writes the slice pv. -/
structure PD (w : World) (d g : Nat) (pv : Value) (m : DM) : Prop where
  ok : m.Ok
  n1 : 1 ≤ m.size ∧ m.size ≤ 1024
  top : m.power ≤ 9223372036854775807
  head : w.heap[d]? = some (.cells #[.pointer (some ⟨d, 0, none⟩), .int .u8 (stOf m), .int .i64 m.power, .slice (some ⟨g, 0, none⟩) m.size m.size, pv] 48 (0, 0))
  med : MedAt w g m
  pen : w.ownsRow 0 72 65 pv m.waits.length (penC m.waits)
  dg : d ≠ g
  pd : ∀ k, pv.ownBlock = some k → k ≠ d ∧ k ≠ g
def Fp (d g : Nat) (pv : Value) (k : Nat) : Prop := k = d ∨ k = g ∨ pv.ownBlock = some k
/-- The program's disk: its blocks are among those of F. -/
def PDisk (w : World) (d : Nat) (F : Nat → Prop) (m : DM) : Prop := ∃ g pv, PD w d g pv m ∧ (∀ k, Fp d g pv k → F k) ∧ ∀ k, F k → k < w.heap.size

theorem MedAt.mod {w w' : World} {g : Nat} {m : DM} {F : Nat → Prop} (h : MedAt w g m) (k : Mod F w w') (hg : ¬ F g) : MedAt w' g m := by
  obtain ⟨cur, h1, h2⟩ := h
  exact ⟨cur, heap_mod h1 k hg, h2⟩
theorem PD.mod {w w' : World} {d g : Nat} {pv : Value} {m : DM} {F : Nat → Prop} (h : PD w d g pv m) (k : Mod F w w') (hF : ∀ i, Fp d g pv i → ¬ F i) : PD w' d g pv m :=
  ⟨h.ok, h.n1, h.top, heap_mod h.head k (hF _ (.inl rfl)), h.med.mod k (hF _ (.inr (.inl rfl))), own_mod h.pen k (fun i hi => hF i (.inr (.inr hi))), h.dg, h.pd⟩
theorem PDisk.mod {w w' : World} {d : Nat} {F G : Nat → Prop} {m : DM} (h : PDisk w d F m) (k : Mod G w w') (hF : ∀ i, F i → ¬ G i) : PDisk w' d F m := by
  obtain ⟨g, pv, h1, h2, h3⟩ := h
  exact ⟨g, pv, h1.mod k fun i hi => hF i (h2 i hi), h2, fun i hi => Nat.lt_of_lt_of_le (h3 i hi) k.size⟩
theorem PDisk.ext {w w' : World} {d : Nat} {F : Nat → Prop} {m : DM} (h : PDisk w d F m) (k : Ext w w') : PDisk w' d F m := h.mod (G := fun _ => False) (Mod.of_ext k) fun _ _ h => h
theorem PDisk.lt {w : World} {d : Nat} {F : Nat → Prop} {m : DM} (h : PDisk w d F m) : ∀ k, F k → k < w.heap.size := h.choose_spec.choose_spec.2.2
theorem PDisk.ok {w : World} {d : Nat} {F : Nat → Prop} {m : DM} (h : PDisk w d F m) : m.Ok := h.choose_spec.choose_spec.1.ok
theorem PDisk.n1 {w : World} {d : Nat} {F : Nat → Prop} {m : DM} (h : PDisk w d F m) : 1 ≤ m.size ∧ m.size ≤ 1024 := h.choose_spec.choose_spec.1.n1

/-- The head's five cells. -/
theorem cells5 {w : World} {g : Nat} {t : TypeId} {x0 x1 x2 x3 x4 : Value} (h : w.heap[g]? = some (.cells #[x0, x1, x2, x3, x4] t (0, 0))) :
    (w.cell? ⟨g, 0, none⟩ = some x0 ∧ w.cell? ⟨g, 1, none⟩ = some x1 ∧ w.cell? ⟨g, 2, none⟩ = some x2 ∧ w.cell? ⟨g, 3, none⟩ = some x3 ∧ w.cell? ⟨g, 4, none⟩ = some x4) ∧
      (w.frozen? ⟨g, 0, none⟩ = false ∧ w.frozen? ⟨g, 1, none⟩ = false ∧ w.frozen? ⟨g, 2, none⟩ = false ∧ w.frozen? ⟨g, 3, none⟩ = false ∧ w.frozen? ⟨g, 4, none⟩ = false) :=
  ⟨⟨cell_of_row w g 0 _ _ _ h, cell_of_row w g 1 _ _ _ h, cell_of_row w g 2 _ _ _ h, cell_of_row w g 3 _ _ _ h, cell_of_row w g 4 _ _ _ h⟩,
    ⟨frozen_of_row w g 0 _ _ h, frozen_of_row w g 1 _ _ h, frozen_of_row w g 2 _ _ h, frozen_of_row w g 3 _ _ h, frozen_of_row w g 4 _ _ h⟩⟩
theorem PD.cells {w : World} {d g : Nat} {pv : Value} {m : DM} (h : PD w d g pv m) :
    (w.cell? ⟨d, 0, none⟩ = some (.pointer (some ⟨d, 0, none⟩)) ∧ w.cell? ⟨d, 1, none⟩ = some (.int .u8 (stOf m)) ∧ w.cell? ⟨d, 2, none⟩ = some (.int .i64 m.power) ∧ w.cell? ⟨d, 3, none⟩ = some (.slice (some ⟨g, 0, none⟩) m.size m.size) ∧ w.cell? ⟨d, 4, none⟩ = some pv) ∧
      (w.frozen? ⟨d, 0, none⟩ = false ∧ w.frozen? ⟨d, 1, none⟩ = false ∧ w.frozen? ⟨d, 2, none⟩ = false ∧ w.frozen? ⟨d, 3, none⟩ = false ∧ w.frozen? ⟨d, 4, none⟩ = false) := cells5 h.head
theorem PD.lt {w : World} {d g : Nat} {pv : Value} {m : DM} (h : PD w d g pv m) : d < w.heap.size := (Array.getElem?_eq_some_iff.1 h.head).1
theorem PD.glt {w : World} {d g : Nat} {pv : Value} {m : DM} (h : PD w d g pv m) : g < w.heap.size := by
  obtain ⟨cur, h1, _⟩ := h.med
  exact (Array.getElem?_eq_some_iff.1 h1).1
/-- One cell of a known block is stored into. -/
theorem row_set {w : World} {g t : Nat} {fr : Nat × Nat} {cs cs' : Array Value} (i : Nat) (h : w.heap[g]? = some (.cells cs t fr)) (x : Value) (e : cs.setIfInBounds i x = cs') : (w.setCell ⟨g, i, none⟩ x).heap[g]? = some (.cells cs' t fr) := by
  subst e
  rw [setCell_eq_setRow w g i cs t fr x h]
  exact setRow_heap w g _ _ _ _ h
theorem heap_set {w : World} {g h k : Nat} {x : Value} {o : Obj} (hne : h ≠ g) (hh : w.heap[h]? = some o) : (w.setCell ⟨g, k, none⟩ x).heap[h]? = some o := by
  rw [Below.heap_setCell _ _ _ _ hne]
  exact hh
/-- The state of a disk. -/
theorem stOf_up {m : DM} (h : m.up = true) : stOf m = 0 := by
  unfold DM.up at h
  unfold stOf
  cases hd : m.down <;> cases he : m.dead <;> simp_all
theorem stOf_not {m : DM} (h : m.up = false) : stOf m ≠ 0 := by
  unfold DM.up at h
  unfold stOf
  cases hd : m.down <;> cases he : m.dead <;> simp_all
theorem stOf_down {m : DM} : stOf m = 2 ↔ m.down = true := by
  unfold stOf
  cases hd : m.down <;> cases he : m.dead <;> simp_all
end Go.Proofs.Ytldgamgdbneneaa

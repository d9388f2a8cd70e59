/-
  Lists of acts (a byte, two numbers, a list of bytes, a list of bools) that came in, opened: what their cells hold; over any program with such types.
  The contracts of the disk's Flush and Crash.
  The contracts of the disk's Lose and Flip.
-/
import Derived.Test.YtlikhmhomkiadaaDoorQ05
import Derived.Deep.Slices
import Derived.Deep.Fields
namespace Go.Proofs.YtlikhmhomkiadaaDoor
set_option maxRecDepth 100000
open Go Go.RowKit Go.ChangeShapes Go.WideShapes Go.Deep

/-- A slice value whose cells hold the values vs, whatever its capacity. -/
structure Vs (w : World) (B : Nat) (A : Option Addr) (n c : Nat) (vs : List Value) : Prop where
  len : vs.length = n
  cap : n ≤ c
  most : c ≤ 9223372036854775807
  rd : 0 < n → ∃ g o, A = some ⟨g, o, none⟩ ∧ g < B ∧ ∀ j v, vs[j]? = some v → w.cell? ⟨g, o + j, none⟩ = some v
  nil_ : A = none → c = 0
theorem Vs.below {w w' : World} {B : Nat} {A : Option Addr} {n c : Nat} {vs : List Value} (h : Vs w B A n c vs) (hb : Below B w w') : Vs w' B A n c vs :=
  ⟨h.len, h.cap, h.most, fun hn => by
    obtain ⟨g, o, e, hg, hc⟩ := h.rd hn
    exact ⟨g, o, e, hg, fun j v hv => (hb.cell (p := ⟨g, o + j, none⟩) hg).trans (hc j v hv)⟩, h.nil_⟩
theorem Vs.more {w : World} {B B' : Nat} {A : Option Addr} {n c : Nat} {vs : List Value} (h : Vs w B A n c vs) (hB : B ≤ B') : Vs w B' A n c vs :=
  ⟨h.len, h.cap, h.most, fun hn => by
    obtain ⟨g, o, e, hg, hc⟩ := h.rd hn
    exact ⟨g, o, e, by omega, hc⟩, h.nil_⟩

/-- An act: its numbers, and where its bytes and its bools lie. -/
structure Act5 where
  kind : Nat := 0
  sec : Int := 0
  num : Int := 0
  bA : Option Addr := none
  bn : Nat := 0
  bc : Nat := 0
  bl : List Nat := []
  kA : Option Addr := none
  kn : Nat := 0
  kc : Nat := 0
  kl : List Bool := []
instance : Inhabited Act5 := ⟨{}⟩
def Act5.cells (a : Act5) : List Value := [.int .u8 (a.kind : Int), .int .i64 a.sec, .int .i64 a.num, .slice a.bA a.bn a.bc, .slice a.kA a.kn a.kc]
/-- What holds of an act that came in. -/
structure Act5.Ok (a : Act5) (w : World) (B : Nat) : Prop where
  kind : a.kind < 256
  sec : (Lit.int .i64 a.sec).wf = true
  num : (Lit.int .i64 a.num).wf = true
  bytes : Bs w B a.bA a.bn a.bc a.bl
  keep : Vs w B a.kA a.kn a.kc (a.kl.map .bool)
theorem Act5.Ok.below {a : Act5} {w w' : World} {B : Nat} (h : a.Ok w B) (hb : Below B w w') : a.Ok w' B := ⟨h.kind, h.sec, h.num, h.bytes.below hb, h.keep.below hb⟩
theorem Act5.Ok.more {a : Act5} {w : World} {B B' : Nat} (h : a.Ok w B) (hB : B ≤ B') : a.Ok w B' := ⟨h.kind, h.sec, h.num, h.bytes.more hB, h.keep.more hB⟩

/-- A list of acts. -/
structure Acts (w : World) (B : Nat) (A : Option Addr) (n c : Nat) (l : List Act5) : Prop where
  len : l.length = n
  cap : n ≤ c
  most : c ≤ 9223372036854775807
  each : ∀ a ∈ l, a.Ok w B
  rd : 0 < n → ∃ g o, A = some ⟨g, o, none⟩ ∧ g < B ∧ ∀ j a, l[j]? = some a → ∀ k v, a.cells[k]? = some v → w.cell? ⟨g, o + (j * 5 + k), none⟩ = some v
  nil_ : A = none → c = 0
theorem Acts.below {w w' : World} {B : Nat} {A : Option Addr} {n c : Nat} {l : List Act5} (h : Acts w B A n c l) (hb : Below B w w') : Acts w' B A n c l :=
  ⟨h.len, h.cap, h.most, fun a ha => (h.each a ha).below hb, fun hn => by
    obtain ⟨g, o, e, hg, hc⟩ := h.rd hn
    exact ⟨g, o, e, hg, fun j a ha k v hv => (hb.cell (p := ⟨g, o + (j * 5 + k), none⟩) hg).trans (hc j a ha k v hv)⟩, h.nil_⟩
theorem Acts.more {w : World} {B B' : Nat} {A : Option Addr} {n c : Nat} {l : List Act5} (h : Acts w B A n c l) (hB : B ≤ B') : Acts w B' A n c l :=
  ⟨h.len, h.cap, h.most, fun a ha => (h.each a ha).more hB, fun hn => by
    obtain ⟨g, o, e, hg, hc⟩ := h.rd hn
    exact ⟨g, o, e, by omega, hc⟩, h.nil_⟩
/-- The five cells of the act at a place of the list. -/
theorem Acts.at_ {w : World} {B : Nat} {A : Option Addr} {n c : Nat} {l : List Act5} (h : Acts w B A n c l) {j : Nat} (hj : j < n) : ∃ g o a, A = some ⟨g, o, none⟩ ∧ g < B ∧ l[j]? = some a ∧ a.Ok w B ∧
    w.cell? ⟨g, o + j * 5, none⟩ = some (.int .u8 (a.kind : Int)) ∧ w.cell? ⟨g, o + j * 5 + 1, none⟩ = some (.int .i64 a.sec) ∧ w.cell? ⟨g, o + j * 5 + 2, none⟩ = some (.int .i64 a.num) ∧
    w.cell? ⟨g, o + j * 5 + 3, none⟩ = some (.slice a.bA a.bn a.bc) ∧ w.cell? ⟨g, o + j * 5 + 4, none⟩ = some (.slice a.kA a.kn a.kc) := by
  obtain ⟨g, o, e, hg, hc⟩ := h.rd (by omega)
  have hj' : j < l.length := by rw [h.len]; exact hj
  have ha : l[j]? = some l[j] := List.getElem?_eq_getElem hj'
  have cell := fun (k : Nat) (v : Value) (hv : (l[j]).cells[k]? = some v) => hc j _ ha k v hv
  exact ⟨g, o, l[j], e, hg, ha, h.each _ (List.getElem_mem hj'), cell 0 _ rfl, cell 1 _ rfl, cell 2 _ rfl, cell 3 _ rfl, cell 4 _ rfl⟩

section
variable {H : Type} {enc : TypeId × Value → H} {P : Program} {w : World} {base : Nat} {spare : Nat → Bool} {held : Bool}

theorem trod_bytes {t e : TypeId} {fuel : Nat} {cs : List Value} {x : DataW H × List MemPlace} (ht : P.underlying t = some (.slice e)) (he : P.underlying e = some (.int .u8)) (hce : P.cellsOf e = 1)
    (hsp : ∀ g, spare g = true) (h : DataW.trod enc P w base spare held fuel t cs = some x) : ∃ (A : Option Addr) (n c : Nat) (l : List Nat), cs = [.slice A n c] ∧ Bs w w.heap.size A n c l := by
  rcases open_ints ht he hce h with ⟨rfl, _⟩ | ⟨a, l, c, zs, rfl, _, hl, hm, hz, _, hcell, hwz⟩
  · exact ⟨none, 0, 0, [], rfl, rfl, Nat.le_refl _, by omega, Rd.nil_, fun _ => rfl⟩
  · rw [hsp, if_pos rfl] at hz
    exact ⟨_, _, _, _, rfl, bs_of_row hl hm hz hcell hwz⟩
theorem trod_bools {t e : TypeId} {fuel : Nat} {cs : List Value} {x : DataW H × List MemPlace} (ht : P.underlying t = some (.slice e)) (he : P.underlying e = some .bool) (hce : P.cellsOf e = 1)
    (h : DataW.trod enc P w base spare held fuel t cs = some x) : ∃ (A : Option Addr) (n c : Nat) (l : List Bool), cs = [.slice A n c] ∧ Vs w w.heap.size A n c (l.map .bool) := by
  rcases open_slice1 ht hce h with ⟨rfl, _⟩ | ⟨a, len, cap, m, n, V, D, Pl, rfl, _, hl, hm, hmm, _, hi⟩
  · exact ⟨none, 0, 0, [], rfl, rfl, Nat.le_refl _, by omega, fun h => absurd h (by omega), fun _ => rfl⟩
  · have hle : len ≤ m := by rw [hmm]; split <;> omega
    have each : ∀ i, i < len → ∃ b : Bool, w.cell? (a.add i) = some (.bool b) := fun i hil => by
      obtain ⟨h1, h2⟩ := hi i (by omega)
      obtain ⟨b, hb, _⟩ := DataW.trod_bool he h2
      injection hb with hb
      rw [hb] at h1
      exact ⟨b, h1⟩
    obtain ⟨f, hf⟩ := choose_lt each
    refine ⟨some a, len, cap, (List.range len).map f, rfl, by simp, hl, by unfold maxLen at hm; exact hm, fun hn => ?_, fun h => by cases h⟩
    obtain ⟨g, o, spot⟩ := a
    have hc := hf 0 hn
    have hspot : spot = none := by simpa [Addr.add] using World.cell?_spot hc
    subst hspot
    refine ⟨g, o, rfl, ?_, fun j v hv => ?_⟩
    · have := World.block_lt_of_cell? w _ hc
      simpa [Addr.add] using this
    · rw [List.getElem?_map, List.getElem?_map] at hv
      obtain ⟨b, hb, rfl⟩ := Option.map_eq_some_iff.1 hv
      obtain ⟨i, hi2, rfl⟩ := Option.map_eq_some_iff.1 hb
      obtain ⟨hjl, hji⟩ := List.getElem?_eq_some_iff.1 hi2
      simp at hjl hji
      subst hji
      have := hf j hjl
      rwa [Addr.add_lit] at this

/-- What is known of the act's type. -/
structure ActTy (P : Program) (e t8 ti tb tk e8 eb : TypeId) : Prop where
  fs : ∃ f0 f1 f2 f3 f4 : Field, P.underlying e = some (.struct #[f0, f1, f2, f3, f4]) ∧ (f0.type = t8 ∧ f0.offset = 0) ∧ (f1.type = ti ∧ f1.offset = 1) ∧ (f2.type = ti ∧ f2.offset = 2) ∧ (f3.type = tb ∧ f3.offset = 3) ∧ (f4.type = tk ∧ f4.offset = 4)
  cells : P.cellsOf e = 5
  one : P.cellsOf t8 = 1 ∧ P.cellsOf ti = 1 ∧ P.cellsOf tb = 1 ∧ P.cellsOf tk = 1 ∧ P.cellsOf eb = 1
  u8 : P.underlying t8 = some (.int .u8)
  i64 : P.underlying ti = some (.int .i64)
  bytes : P.underlying tb = some (.slice e8) ∧ P.underlying e8 = some (.int .u8) ∧ P.cellsOf e8 = 1
  keep : P.underlying tk = some (.slice eb) ∧ P.underlying eb = some .bool

theorem trod_act {e t8 ti tb tk e8 eb : TypeId} (T : ActTy P e t8 ti tb tk e8 eb) (hsp : ∀ g, spare g = true) {fuel : Nat} {cs : List Value} {x : DataW H × List MemPlace} (h : DataW.trod enc P w base spare held fuel e cs = some x) : ∃ a : Act5, cs = a.cells ∧ a.Ok w w.heap.size := by
  obtain ⟨f0, f1, f2, f3, f4, hs, ⟨y0, o0⟩, ⟨y1, o1⟩, ⟨y2, o2⟩, ⟨y3, o3⟩, y4, o4⟩ := T.fs
  obtain ⟨xs, n, _, _, hcl, hxl, hg⟩ := DataW.trod_struct hs h
  rw [T.cells] at hcl
  match cs, hcl, xs, hxl with
  | [c0, c1, c2, c3, c4], _, [x0, x1, x2, x3, x4], _ =>
    have g0 := hg 0 f0 rfl
    have g1 := hg 1 f1 rfl
    have g2 := hg 2 f2 rfl
    have g3 := hg 3 f3 rfl
    have g4 := hg 4 f4 rfl
    rw [y0, o0, T.one.1] at g0
    rw [y1, o1, T.one.2.1] at g1
    rw [y2, o2, T.one.2.1] at g2
    rw [y3, o3, T.one.2.2.1] at g3
    rw [y4, o4, T.one.2.2.2.1] at g4
    obtain ⟨k, e0, _, hk⟩ := DataW.trod_int T.u8 (show DataW.trod enc P w base spare held n t8 [c0] = some x0 from g0)
    obtain ⟨s, e1, _, hsc⟩ := DataW.trod_int T.i64 (show DataW.trod enc P w base spare held n ti [c1] = some x1 from g1)
    obtain ⟨m, e2, _, hm⟩ := DataW.trod_int T.i64 (show DataW.trod enc P w base spare held n ti [c2] = some x2 from g2)
    obtain ⟨bA, bn, bc, bl, e3, hb⟩ := trod_bytes T.bytes.1 T.bytes.2.1 T.bytes.2.2 hsp (show DataW.trod enc P w base spare held n tb [c3] = some x3 from g3)
    obtain ⟨kA, kn, kc, kl, e4, hkp⟩ := trod_bools T.keep.1 T.keep.2 T.one.2.2.2.2 (show DataW.trod enc P w base spare held n tk [c4] = some x4 from g4)
    injection e0 with e0 _
    injection e1 with e1 _
    injection e2 with e2 _
    injection e3 with e3 _
    injection e4 with e4 _
    have hk8 := bounds_u8 hk
    refine ⟨{ kind := k.toNat, sec := s, num := m, bA := bA, bn := bn, bc := bc, bl := bl, kA := kA, kn := kn, kc := kc, kl := kl }, ?_, ⟨by show k.toNat < 256; omega, hsc, hm, hb, hkp⟩⟩
    rw [e0, e1, e2, e3, e4]
    show _ = [Value.int .u8 ((k.toNat : Nat) : Int), _, _, _, _]
    rw [Int.toNat_of_nonneg hk8.1]

theorem trod_acts {t e t8 ti tb tk e8 eb : TypeId} (ht : P.underlying t = some (.slice e)) (T : ActTy P e t8 ti tb tk e8 eb) (hsp : ∀ g, spare g = true) {fuel : Nat} {cs : List Value} {x : DataW H × List MemPlace} (h : DataW.trod enc P w base spare held fuel t cs = some x) :
    ∃ (A : Option Addr) (n c : Nat) (l : List Act5), cs = [.slice A n c] ∧ Acts w w.heap.size A n c l := by
  rcases open_slice ht h with ⟨rfl, _⟩ | ⟨a, len, cap, m, n, D, Pl, rfl, _, hl, hm, hmm, _, hi⟩
  · exact ⟨none, 0, 0, [], rfl, rfl, Nat.le_refl _, by omega, fun a ha => (by cases ha), fun h => absurd h (by omega), fun _ => rfl⟩
  · have hle : len ≤ m := by rw [hmm]; split <;> omega
    have each : ∀ i, i < len → ∃ b : Act5, (∀ k v, b.cells[k]? = some v → w.cell? ((a.add (i * 5)).add k) = some v) ∧ b.Ok w w.heap.size := fun i hil => by
      obtain ⟨cs', h1, h2⟩ := hi i (by omega)
      rw [T.cells] at h1
      obtain ⟨_, _, hcell⟩ := World.cells?_some h1
      obtain ⟨b, rfl, hb⟩ := trod_act T hsp h2
      refine ⟨b, fun k v hv => ?_, hb⟩
      have hk5 : k < 5 := (List.getElem?_eq_some_iff.1 hv).1
      rw [hcell k hk5, hv]
    obtain ⟨f, hf⟩ := choose_lt each
    refine ⟨some a, len, cap, (List.range len).map f, rfl, by simp, hl, by unfold maxLen at hm; exact hm, fun b hb => ?_, fun hn => ?_, fun h => by cases h⟩
    · obtain ⟨i, hil, rfl⟩ := List.mem_map.1 hb
      exact (hf i (List.mem_range.1 hil)).2
    · obtain ⟨g, o, spot⟩ := a
      have hc := (hf 0 hn).1 0 _ rfl
      have hspot : spot = none := by simpa [Addr.add] using World.cell?_spot hc
      subst hspot
      refine ⟨g, o, rfl, ?_, fun j b hb k v hv => ?_⟩
      · have := World.block_lt_of_cell? w _ hc
        simpa [Addr.add] using this
      · rw [List.getElem?_map] at hb
        obtain ⟨i, hi2, rfl⟩ := Option.map_eq_some_iff.1 hb
        obtain ⟨hjl, hji⟩ := List.getElem?_eq_some_iff.1 hi2
        simp at hjl hji
        subst hji
        have := (hf j hjl).1 k v hv
        rw [Addr.add_lit, Addr.add_lit, Nat.add_assoc] at this
        exact this

theorem open_acts {t e t8 ti tb tk e8 eb : TypeId} (ht : P.underlying t = some (.slice e)) (T : ActTy P e t8 ti tb tk e8 eb) {r : Reach} {b0 : Nat} {v : Value} {d : DataW H} {p : List MemPlace}
    (hv : Value.okWide P w r b0 t v) (h : DataW.Trod enc P w base (fun _ => true) held t v d p) : ∃ (A : Option Addr) (n c : Nat) (l : List Act5), v = .slice A n c ∧ Acts w w.heap.size A n c l := by
  obtain ⟨A, n, c, rfl⟩ := okWide_slice ht hv
  obtain ⟨fuel, hf⟩ := h
  obtain ⟨A', n', c', l, hcs, hl⟩ := trod_acts ht T (fun _ => rfl) hf
  simp [Value.cells] at hcs
  obtain ⟨rfl, rfl, rfl⟩ := hcs
  exact ⟨_, _, _, l, rfl, hl⟩
theorem open_bools {t e : TypeId} (ht : P.underlying t = some (.slice e)) (he : P.underlying e = some .bool) (hce : P.cellsOf e = 1) {r : Reach} {b0 : Nat} {v : Value} {d : DataW H} {p : List MemPlace}
    (hv : Value.okWide P w r b0 t v) (h : DataW.Trod enc P w base (fun _ => true) held t v d p) : ∃ (A : Option Addr) (n c : Nat) (l : List Bool), v = .slice A n c ∧ Vs w w.heap.size A n c (l.map .bool) := by
  obtain ⟨A, n, c, rfl⟩ := okWide_slice ht hv
  obtain ⟨fuel, hf⟩ := h
  obtain ⟨A', n', c', l, hcs, hl⟩ := trod_bools ht he hce hf
  simp [Value.cells] at hcs
  obtain ⟨rfl, rfl, rfl⟩ := hcs
  exact ⟨_, _, _, l, rfl, hl⟩
theorem open_act {e t8 ti tb tk e8 eb : TypeId} (T : ActTy P e t8 ti tb tk e8 eb) {r : Reach} {b0 : Nat} {v : Value} {d : DataW H} {p : List MemPlace}
    (hv : Value.okWide P w r b0 e v) (h : DataW.Trod enc P w base (fun _ => true) held e v d p) : ∃ a : Act5, v = .agg #[.int .u8 (a.kind : Int), .int .i64 a.sec, .int .i64 a.num, .slice a.bA a.bn a.bc, .slice a.kA a.kn a.kc] ∧ a.Ok w w.heap.size := by
  obtain ⟨f0, f1, f2, f3, f4, hs, _⟩ := T.fs
  obtain ⟨cs, rfl, _⟩ := okWide_struct hs hv
  obtain ⟨fuel, hf⟩ := h
  obtain ⟨a, hcs, ha⟩ := trod_act T (fun _ => rfl) hf
  refine ⟨a, ?_, ha⟩
  have e1 : cs.toList = a.cells := hcs
  rw [show cs = a.cells.toArray from by rw [← e1]]
  rfl
end
end Go.Proofs.YtlikhmhomkiadaaDoor

namespace Go.Proofs.YtlikhmhomkiadaaDoor
set_option maxRecDepth 100000
open Go Go.RowKit

theorem PD.pen_at {w : World} {d g : Nat} {pv : Value} {m : DM} (h : PD w d g pv m) {j : Nat} {x : Nat × List Nat} (hx : m.waits[j]? = some x) :
    ∃ b c, pv = .slice (some ⟨b, 0, none⟩) m.waits.length c ∧ w.rangeAt b (j * 65) (wriC x) := by
  have hj : j < m.waits.length := (List.getElem?_eq_some_iff.1 hx).1
  rcases h.pen.2 with ⟨_, h0⟩ | ⟨b, cap, cur, rfl, _, hg, h1, h2, h3, h4⟩
  · omega
  · refine ⟨b, cap, rfl, fun i v hv => ?_⟩
    rw [cell_of_row w b _ cur _ _ hg]
    have hp := penC_get (fun y hy => (h.ok.waits y hy).2.1) hx i v hv
    rw [← h4] at hp
    rw [List.getElem?_take] at hp
    split at hp
    · simpa using hp
    · cases hp
/-- The disk with no pending writes, and another head. -/
theorem PD.cleared {w w' : World} {d g : Nat} {pv : Value} {m : DM} (h : PD w d g pv m) (k : Mod (fun i => i = d) w w') (m' : DM)
    (hh : HeadAt w' d (.pointer (some ⟨d, 0, none⟩)) (stOf m') m'.power (.slice (some ⟨g, 0, none⟩) m.size m.size) (.slice none 0 0))
    (hok : m'.Ok) (h1 : m'.rest = m.rest) (h2 : m'.meant = m.meant) (h3 : m'.lost = m.lost) (h4 : m'.waits = []) (hp : m'.power = m.power) : PD w' d g (.slice none 0 0) m' := by
  have hz : m'.size = m.size := by unfold DM.size; rw [h1]
  refine ⟨hok, by rw [hz]; exact h.n1, by rw [hp]; exact h.top, by rw [hz]; exact hh, ?_, ?_, h.dg, fun k hk => (by cases hk)⟩
  · obtain ⟨cur, c1, c2, c3⟩ := h.med.mod k (fun e => h.dg e.symm)
    exact ⟨cur, c1, by rw [hz]; exact c2, fun s hs j v hv => c3 s (by rw [← hz]; exact hs) j v (by unfold DM.sec at hv ⊢; rw [h1, h2, h3] at hv; exact hv)⟩
  · rw [h4]
    exact World.ownsRow_nil _ _ _ _
theorem comes_snoc (m : DM) (l : List (Nat × List Nat)) (x : Nat × List Nat) : m.comes (l ++ [x]) = (m.comes l).come x := by simp [DM.comes]
theorem take_snoc {l : List (Nat × List Nat)} {j : Nat} {x : Nat × List Nat} (h : l[j]? = some x) : l.take (j + 1) = l.take j ++ [x] := by
  rw [List.take_add_one, h]; rfl
/-- What a loop that carries out writes has written. -/
def Fdg (d g : Nat) (i : Nat) : Prop := i = d ∨ i = g
theorem Fdg.of_d {d g : Nat} {w w' : World} (h : Mod (fun i => i = d) w w') : Mod (Fdg d g) w w' := h.mono fun _ hi => .inl hi
theorem Fdg.of_g {d g : Nat} {w w' : World} (h : Mod (fun i => i = g) w w') : Mod (Fdg d g) w w' := h.mono fun _ hi => .inr hi
theorem Mod.then {F : Nat → Prop} {a b c : World} (h : Mod F a b) (k : Mod F b c) : Mod F a c := h.trans k fun _ hi => .inl hi

set_option maxRecDepth 100000 in
set_option maxHeartbeats 3200000 in
theorem flush_of {w : World} {d g : Nat} {pv : Value} {m : DM} (h : PD w d g pv m) :
    Calls Tryd.prog 66 #[.pointer (some ⟨d, 0, none⟩)] w fun e w' => ∃ pv', e = .returned (.int .i64 m.flush.1) ∧ PD w' d g pv' m.flush.2 ∧ (pv' = pv ∨ pv' = .slice none 0 0) ∧ Mod (Fdg d g) w w' := by
  have hr := running_of h none 0 0 [] (ZsAt.nil_ w)
  have HR := Lib.hid hr
  have H := Lib.hid h
  have HE : Hid (runE m [] = if m.up = false then 5 else 0) := Lib.hid (by
    unfold runE knownE
    simp)
  have HP : Hid (m.flush = if m.up = false then (5, m) else if m.power = 0 then (5, { m with dead := true }) else (0, { ({ m with power := lessP m.power } : DM).comes m.waits with waits := [] })) := Lib.hid rfl
  have HO := Lib.hid (DM.flush_ok h.ok)
  clear h hr
  by_cases hu : m.up = false
  · have HE1 : Hid (runE m [] = 5) := Lib.hid (by rw [HE.out, if_pos hu])
    have HP1 : Hid (m.flush = (5, m)) := Lib.hid (by rw [HP.out, if_pos hu])
    clear hu HE HP
    go_enter Tryd.func66, Tryd.ntmps66
    go_wp2_with fail
    refine HR.out.mono ?_
    rw [HE1.out]
    rintro e w1 ⟨rfl, rfl⟩
    go_wp2_with fail
    go_ret
    exact ⟨pv, by rw [HP1.out]; rfl, by rw [HP1.out]; exact H.out, .inl rfl, Mod.refl _ _⟩
  · have HE1 : Hid (runE m [] = 0) := Lib.hid (by rw [HE.out, if_neg hu])
    have hup : m.up = true := by simpa using hu
    have hdr := draw_of H.out.headAt H.out.ok.power H.out.top
    have HD := Lib.hid hdr
    by_cases hp0 : m.power = 0
    · have HP1 : Hid (m.flush = (5, { m with dead := true })) := Lib.hid (by rw [HP.out, if_neg hu, if_pos hp0])
      have HS : Hid (drawE m.power = 5 ∧ drawS m.power (stOf m) = stOf { m with dead := true } ∧ lessP m.power = 0) := Lib.hid ⟨by rw [hp0]; rfl, by
        rw [hp0]
        show (1 : Int) = stOf { m with dead := true }
        unfold stOf
        have hd : m.down = false := by
          unfold DM.up at hup
          cases hm : m.down <;> simp_all
        simp [hd], by rw [hp0]; rfl⟩
      have HP0 := Lib.hid hp0
      clear hu hup hdr hp0 HE HP
      go_enter Tryd.func66, Tryd.ntmps66
      go_wp2_with fail
      refine HR.out.mono ?_
      rw [HE1.out]
      rintro e w1 ⟨rfl, rfl⟩
      go_wp2_with fail
      refine HD.out.mono ?_
      rw [HS.out.1, HS.out.2.1, HS.out.2.2]
      rintro e w1 ⟨rfl, hh, hm⟩
      have HM := Lib.hid hm
      have HH := Lib.hid hh
      clear hh hm
      go_wp2_with fail
      go_ret
      refine ⟨pv, by rw [HP1.out]; rfl, ?_, .inl rfl, Fdg.of_d HM.out⟩
      exact H.out.head_turned HM.out (stOf { m with dead := true }) 0 HH.out _ HO.out (by rw [HP1.out]) (by rw [HP1.out]) (by rw [HP1.out]) (by rw [HP1.out]) (by rw [HP1.out]) (by rw [HP1.out]; exact HP0.out) (by omega)
    · have HP1 : Hid (m.flush = (0, { ({ m with power := lessP m.power } : DM).comes m.waits with waits := [] })) := Lib.hid (by rw [HP.out, if_neg hu, if_neg hp0])
      have HS : Hid (drawE m.power = 0 ∧ drawS m.power (stOf m) = stOf m) := Lib.hid ⟨if_neg hp0, if_neg hp0⟩
      clear hu hup hdr hp0 HE HP
      go_enter Tryd.func66, Tryd.ntmps66
      go_wp2_with fail
      refine HR.out.mono ?_
      rw [HE1.out]
      rintro e w1 ⟨rfl, rfl⟩
      go_wp2_with fail
      refine HD.out.mono ?_
      rw [HS.out.1, HS.out.2]
      rintro e w1 ⟨rfl, hh, hm⟩
      have hpd : PD w1 d g pv { m with power := lessP m.power } := H.out.head_turned hm (stOf m) (lessP m.power) hh { m with power := lessP m.power } ⟨H.out.ok.meant, H.out.ok.lost, H.out.ok.rests, H.out.ok.means, H.out.ok.waits, lessP_le H.out.ok.power⟩ rfl rfl rfl rfl rfl rfl (by
        have := H.out.top
        unfold lessP
        split <;> omega)
      have HPW : Hid (({ m with power := lessP m.power } : DM).waits = m.waits) := Lib.hid rfl
      generalize ({ m with power := lessP m.power } : DM) = m1 at *
      have HM := Lib.hid (Fdg.of_d (g := g) hm)
      have H1 := Lib.hid hpd
      obtain ⟨⟨c0, c1, c2, c3, c4⟩, _⟩ := hpd.cells
      obtain ⟨A, c, hpv, hcap, hmost⟩ := hpd.pv_form
      rw [HPW.out] at hpv hcap
      obtain ⟨k, hk⟩ : ∃ k, m.waits.length = k := ⟨_, rfl⟩
      have HK := Lib.hid hk
      rw [hk] at hpv hcap
      subst hpv
      clear hh hm hpd hk c0 c1 c2 c3
      go_wp2_with fail
      go_loopw [22] (fun i wr => ∃ j : Nat, j ≤ k ∧ i = .int .i64 j ∧ PD wr d g (.slice A k c) (m1.comes (m.waits.take j)) ∧ Mod (Fdg d g) w wr) (fun i _ => k - (intOf i).toNat)
      case atStart => exact ⟨0, Nat.zero_le _, rfl, H1.out, HM.out⟩
      case round =>
        obtain ⟨j, hj, rfl, hpd, hmod⟩ := hrel
        have HPD := Lib.hid hpd
        have HMD := Lib.hid hmod
        clear hpd hmod c4
        by_cases hlt : j < k
        · obtain ⟨x, hx⟩ : ∃ x, m.waits[j]? = some x := ⟨_, List.getElem?_eq_getElem (by rw [HK.out]; exact hlt)⟩
          have hcw := DM.comes_waits (m.waits.take j) m1
          have hx2 : (m1.comes (m.waits.take j)).waits[j]? = some x := by rw [hcw.1, HPW.out]; exact hx
          obtain ⟨b, c', hpv, hrange⟩ := HPD.out.pen_at hx2
          injection hpv with hA hB hC
          subst hA
          clear hB hC
          have hxm := HPD.out.ok.waits x (List.mem_of_getElem? hx2)
          have HX := Lib.hid hx
          have HXM := Lib.hid hxm
          have HRG := Lib.hid hrange
          have HL65 : Hid ((wriC x).length = 65) := Lib.hid (wriC_len hxm.2.1)
          have hzv := zv_wri
          have HRN : Hid ((wr.alloc (.cells (wriC x).toArray 82)).rangeAt wr.heap.size 0 (wriC x)) := Lib.hid (range_new wr _ (wriC x) [] (wriC x) [] (by simp) 0 rfl)
          clear hcw hx hx2 hrange hxm
          go_wp2_with (first
            | (refine wl_wri rfl _ rfl b (j * 65) rfl (wriC x) HRG.out HL65.out ?_)
            | (refine ws_wri rfl _ _ rfl (wriC x) rfl rfl HL65.out (wriC_one x) ?_)
            | (refine wl_wri rfl _ rfl wr.heap.size 0 rfl (wriC x) HRN.out HL65.out ?_))
          have hE := (Ext.refl wr).alloc (.cells (wriC x).toArray 82)
          refine (carry_of (HPD.out.ext hE) x HXM.out.1 HXM.out.2).mono ?_
          rintro e w3 ⟨⟨v, rfl⟩, hp3, hm3⟩
          have HP3 := Lib.hid hp3
          have HM3 := Lib.hid ((HMD.out.ext hE).then (Fdg.of_g hm3))
          clear hp3 hm3 hE
          go_wp2_with fail
          go_roundw
          case rel => exact ⟨j + 1, by omega, by go_num, by rw [take_snoc HX.out, comes_snoc]; exact HP3.out, HM3.out⟩
          case measure => simp [intOf]; omega
        · have HTK : Hid (m.waits.take j = m.waits) := Lib.hid (List.take_of_length_le (by rw [HK.out]; omega))
          obtain ⟨⟨c0, c1, c2, c3, c4⟩, f0, f1, f2, f3, f4⟩ := HPD.out.cells
          clear c0 c1 c2 c3 f0 f1 f2 f3
          go_wp2_with fail
          go_ret
          have hpd := HPD.out
          rw [HTK.out] at hpd
          have hm4 : Mod (fun i => i = d) wr (wr.setCell ⟨d, 4, none⟩ (.slice none 0 0)) := (Mod.refl _ _).own_cell _ _
          refine ⟨.slice none 0 0, by rw [HP1.out]; rfl, ?_, .inr rfl, HMD.out.then (Fdg.of_d hm4)⟩
          refine hpd.cleared hm4 _ ?_ HO.out (by rw [HP1.out]) (by rw [HP1.out]) (by rw [HP1.out]) (by rw [HP1.out]) (by rw [HP1.out])
          rw [HP1.out]
          exact row_set 4 hpd.head _ rfl
end Go.Proofs.YtlikhmhomkiadaaDoor

namespace Go.Proofs.YtlikhmhomkiadaaDoor
set_option maxRecDepth 100000
open Go Go.RowKit

theorem set1_setCells (w : World) (g o : Nat) (v : Value) : w.setCell ⟨g, o, none⟩ v = w.setCells g o [v] := rfl
/-- A disk of which one sector behind the cache was turned. -/
theorem PD.sec_turned {w w' : World} {d g : Nat} {pv : Value} {m : DM} (h : PD w d g pv m) (hm : Mod (fun i => i = g) w w') (m' : DM) (hok : m'.Ok) (hz : m'.size = m.size) (hmed : MedAt w' g m') (h1 : m'.waits = m.waits) (h2 : m'.down = m.down) (h3 : m'.dead = m.dead) (h4 : m'.power = m.power) : PD w' d g pv m' := by
  refine ⟨hok, by rw [hz]; exact h.n1, by rw [h4]; exact h.top, ?_, hmed, ?_, h.dg, h.pd⟩
  · rw [hz, h4, show stOf m' = stOf m by unfold stOf; rw [h2, h3]]
    exact heap_mod h.head hm h.dg
  · rw [h1]
    exact own_mod h.pen hm fun i hi => (h.pd i hi).2
theorem secC_get {r m : List Nat} {l : Bool} (hr : r.length = 64) (hm : m.length = 64) (j : Nat) (v : Value) (h : (secC r m l)[j]? = some v) : (j < 64 ∧ (vb r)[j]? = some v) ∨ (64 ≤ j ∧ j < 128 ∧ (vb m)[j - 64]? = some v) ∨ (j = 128 ∧ v = .bool l) := by
  unfold secC at h
  by_cases h1 : j < 64
  · rw [List.getElem?_append_left (by rw [vb_length]; omega)] at h
    exact .inl ⟨h1, h⟩
  · rw [List.getElem?_append_right (by rw [vb_length]; omega), vb_length, hr] at h
    by_cases h2 : j < 128
    · rw [List.getElem?_append_left (by rw [vb_length]; omega)] at h
      exact .inr (.inl ⟨by omega, h2, h⟩)
    · rw [List.getElem?_append_right (by rw [vb_length]; omega), vb_length, hm] at h
      have hj : j - 64 - 64 < 1 := (List.getElem?_eq_some_iff.1 h).1
      obtain rfl : j = 128 := by omega
      simp at h
      exact .inr (.inr ⟨rfl, h.symm⟩)
theorem secC_mk {r m : List Nat} {l : Bool} (hr : r.length = 64) (hm : m.length = 64) (j : Nat) (v : Value) (h : (j < 64 ∧ (vb r)[j]? = some v) ∨ (64 ≤ j ∧ j < 128 ∧ (vb m)[j - 64]? = some v) ∨ (j = 128 ∧ v = .bool l)) : (secC r m l)[j]? = some v := by
  unfold secC
  rcases h with ⟨h1, h⟩ | ⟨h1, h2, h⟩ | ⟨rfl, rfl⟩
  · rw [List.getElem?_append_left (by rw [vb_length]; omega)]
    exact h
  · rw [List.getElem?_append_right (by rw [vb_length]; omega), vb_length, hr, List.getElem?_append_left (by rw [vb_length]; omega)]
    exact h
  · rw [List.getElem?_append_right (by rw [vb_length]; omega), vb_length, hr, List.getElem?_append_right (by rw [vb_length]; omega), vb_length, hm]
    rfl

theorem lose_eq (m : DM) (s : Int) : m.lose s = if m.has s = false then (2, m) else (0, { m with lost := m.lost.set s.toNat true }) := rfl
set_option maxRecDepth 100000 in
set_option maxHeartbeats 1600000 in
theorem lose_of {w : World} {d g : Nat} {pv : Value} {m : DM} (h : PD w d g pv m) (s : Int) :
    Calls Tryd.prog 23 #[.pointer (some ⟨d, 0, none⟩), .int .i64 s] w fun e w' => e = .returned (.int .i64 (m.lose s).1) ∧ PD w' d g pv (m.lose s).2 ∧ Mod (fun i => i = g) w w' := by
  have hx := (Ext.refl w).alloc (.cells #[.int .i64 s] 3)
  have h1 := h.ext hx
  have hz := ZsAt.one w s 3
  have hk := known_of h1 _ 1 1 [s] hz
  rw [known_one] at hk
  have HX := Lib.hid hx
  have H1 := Lib.hid h1
  have HP := Lib.hid (lose_eq m s)
  have HO := Lib.hid (DM.lose_ok h.ok s)
  clear h h1 hx hz
  by_cases hh : m.has s = false
  · have HP1 : Hid (m.lose s = (2, m)) := Lib.hid (by rw [HP.out, if_pos hh])
    rw [if_pos hh] at hk
    have HK := Lib.hid hk
    clear hk hh HP
    go_enter Tryd.func23, Tryd.ntmps23
    go_wp2_with fail
    refine HK.out.mono ?_
    rintro e w1 ⟨rfl, rfl⟩
    go_wp2_with fail
    go_ret
    exact ⟨by rw [HP1.out]; rfl, by rw [HP1.out]; exact H1.out, Mod.of_ext HX.out⟩
  · rw [if_neg hh] at hk
    have HK := Lib.hid hk
    have HP1 : Hid (m.lose s = (0, { m with lost := m.lost.set s.toNat true })) := Lib.hid (by rw [HP.out, if_neg hh])
    have hhas : m.has s = true := by simpa using hh
    obtain ⟨hs0, hs1⟩ := DM.has_iff.1 hhas
    obtain ⟨k, rfl⟩ := Int.eq_ofNat_of_zero_le hs0
    have hks : k < m.size := by omega
    rw [Int.toNat_natCast] at HP1
    clear hk hh hhas HP
    go_enter Tryd.func23, Tryd.ntmps23
    go_wp2_with fail
    refine HK.out.mono ?_
    rintro e w1 ⟨rfl, rfl⟩
    obtain ⟨⟨c0, c1, c2, c3, c4⟩, f0, f1, f2, f3, f4⟩ := H1.out.cells
    generalize w.alloc (.cells #[.int .i64 (k : Int)] 3) = w1 at *
    obtain ⟨cur, hg, hsz, hcur⟩ := H1.out.med
    have hle : (k + 1) * 129 ≤ m.size * 129 := Nat.mul_le_mul_right _ hks
    have hth := (there_of hg (k * 129 + 128) 1 (by omega)) 0 (by omega)
    rw [Nat.add_zero] at hth
    obtain ⟨u, hu⟩ := Option.isSome_iff_exists.1 hth.1
    have hfr := hth.2
    clear c0 c1 c2 c4 f0 f1 f2 f3 f4 hg hsz hcur hle hth
    go_wp2_with fail
    go_ret
    have hm : Mod (fun i => i = g) w1 (w1.setCells g (k * 129 + 128) [.bool true]) := mod_setCells _ _ _ _
    have hrl := (H1.out.ok.rest_at hks).1
    have hml := (H1.out.ok.meant_at hks).1
    refine ⟨by rw [HP1.out]; rfl, ?_, (Mod.of_ext HX.out).then hm⟩
    have hO := HO.out
    rw [HP1.out] at hO ⊢
    have hsec : ∀ i, ({ m with lost := m.lost.set k true } : DM).sec i = if i = k then secC (m.rest.getD k []) (m.meant.getD k []) true else m.sec i := fun i => by
      unfold DM.sec
      by_cases e : k = i
      · subst e
        rw [if_pos rfl]
        simp only
        rw [getD_set (show k < m.lost.length by rw [H1.out.ok.lost]; exact hks), if_pos rfl]
      · rw [if_neg fun h => e h.symm]
        simp only
        rw [getD_set_ne e]
    refine H1.out.sec_turned hm _ hO rfl ?_ rfl rfl rfl rfl
    refine H1.out.med.set (m' := { m with lost := m.lost.set k true }) hks 128 [.bool true] rfl (by simp) (fun i hi hne => by rw [hsec, if_neg hne]) (fun i hi => by
      rw [hsec]
      split
      · exact secC_len hrl hml
      · exact H1.out.ok.sec_len hi) (fun j v hv => ?_)
    rw [hsec, if_pos rfl] at hv
    rcases secC_get hrl hml j v hv with ⟨a1, a2⟩ | ⟨a1, a2, a3⟩ | ⟨rfl, rfl⟩
    · rw [if_neg (by simp; omega)]
      exact secC_mk hrl hml j v (.inl ⟨a1, a2⟩)
    · rw [if_neg (by simp; omega)]
      exact secC_mk hrl hml j v (.inr (.inl ⟨a1, a2, a3⟩))
    · rw [if_pos (by simp)]
      rfl
end Go.Proofs.YtlikhmhomkiadaaDoor

/-
  Lists of acts (a byte, two numbers, a list of bytes, a list of bools) that came in, opened: what their cells hold; over any program with such types.
-/
import Derived.Test.YtmohjofjfekjfaaOpen
import Derived.Deep.Slices
import Derived.Deep.Fields
namespace Go.Proofs.Ytmohjofjfekjfaa
set_option maxRecDepth 100000
open Go Go.RowKit Go.ChangeShapes Go.WideShapes Go.Deep

/-- A slice value whose cells hold the values vs, whatever its capacity. -/
structure Vs (w : World) (B : Nat) (A : Option Addr) (n c : Nat) (vs : List Value) : Prop where
  len : vs.length = n
  cap : n ≤ c
  most : c ≤ 9223372036854775807
  rd : 0 < n → ∃ g o, A = some ⟨g, o, none⟩ ∧ g < B ∧ ∀ j v, vs[j]? = some v → w.cell? ⟨g, o + j, none⟩ = some v
  nil_ : A = none → c = 0
theorem Vs.below {w w' : World} {B : Nat} {A : Option Addr} {n c : Nat} {vs : List Value} (h : Vs w B A n c vs) (hb : Below B w w') : Vs w' B A n c vs :=
  ⟨h.len, h.cap, h.most, fun hn => by
    obtain ⟨g, o, e, hg, hc⟩ := h.rd hn
    exact ⟨g, o, e, hg, fun j v hv => (hb.cell (p := ⟨g, o + j, none⟩) hg).trans (hc j v hv)⟩, h.nil_⟩
theorem Vs.more {w : World} {B B' : Nat} {A : Option Addr} {n c : Nat} {vs : List Value} (h : Vs w B A n c vs) (hB : B ≤ B') : Vs w B' A n c vs :=
  ⟨h.len, h.cap, h.most, fun hn => by
    obtain ⟨g, o, e, hg, hc⟩ := h.rd hn
    exact ⟨g, o, e, by omega, hc⟩, h.nil_⟩

/-- An act: its numbers, and where its bytes and its bools lie. -/
structure Act5 where
  kind : Nat := 0
  sec : Int := 0
  num : Int := 0
  bA : Option Addr := none
  bn : Nat := 0
  bc : Nat := 0
  bl : List Nat := []
  kA : Option Addr := none
  kn : Nat := 0
  kc : Nat := 0
  kl : List Bool := []
instance : Inhabited Act5 := ⟨{}⟩
def Act5.cells (a : Act5) : List Value := [.int .u8 (a.kind : Int), .int .i64 a.sec, .int .i64 a.num, .slice a.bA a.bn a.bc, .slice a.kA a.kn a.kc]
/-- What holds of an act that came in. -/
structure Act5.Ok (a : Act5) (w : World) (B : Nat) : Prop where
  kind : a.kind < 256
  sec : (Lit.int .i64 a.sec).wf = true
  num : (Lit.int .i64 a.num).wf = true
  bytes : Bs w B a.bA a.bn a.bc a.bl
  keep : Vs w B a.kA a.kn a.kc (a.kl.map .bool)
theorem Act5.Ok.below {a : Act5} {w w' : World} {B : Nat} (h : a.Ok w B) (hb : Below B w w') : a.Ok w' B := ⟨h.kind, h.sec, h.num, h.bytes.below hb, h.keep.below hb⟩
theorem Act5.Ok.more {a : Act5} {w : World} {B B' : Nat} (h : a.Ok w B) (hB : B ≤ B') : a.Ok w B' := ⟨h.kind, h.sec, h.num, h.bytes.more hB, h.keep.more hB⟩

/-- A list of acts. -/
structure Acts (w : World) (B : Nat) (A : Option Addr) (n c : Nat) (l : List Act5) : Prop where
  len : l.length = n
  cap : n ≤ c
  most : c ≤ 9223372036854775807
  each : ∀ a ∈ l, a.Ok w B
  rd : 0 < n → ∃ g o, A = some ⟨g, o, none⟩ ∧ g < B ∧ ∀ j a, l[j]? = some a → ∀ k v, a.cells[k]? = some v → w.cell? ⟨g, o + (j * 5 + k), none⟩ = some v
  nil_ : A = none → c = 0
theorem Acts.below {w w' : World} {B : Nat} {A : Option Addr} {n c : Nat} {l : List Act5} (h : Acts w B A n c l) (hb : Below B w w') : Acts w' B A n c l :=
  ⟨h.len, h.cap, h.most, fun a ha => (h.each a ha).below hb, fun hn => by
    obtain ⟨g, o, e, hg, hc⟩ := h.rd hn
    exact ⟨g, o, e, hg, fun j a ha k v hv => (hb.cell (p := ⟨g, o + (j * 5 + k), none⟩) hg).trans (hc j a ha k v hv)⟩, h.nil_⟩
theorem Acts.more {w : World} {B B' : Nat} {A : Option Addr} {n c : Nat} {l : List Act5} (h : Acts w B A n c l) (hB : B ≤ B') : Acts w B' A n c l :=
  ⟨h.len, h.cap, h.most, fun a ha => (h.each a ha).more hB, fun hn => by
    obtain ⟨g, o, e, hg, hc⟩ := h.rd hn
    exact ⟨g, o, e, by omega, hc⟩, h.nil_⟩
/-- The five cells of the act at a place of the list. -/
theorem Acts.at_ {w : World} {B : Nat} {A : Option Addr} {n c : Nat} {l : List Act5} (h : Acts w B A n c l) {j : Nat} (hj : j < n) : ∃ g o a, A = some ⟨g, o, none⟩ ∧ g < B ∧ l[j]? = some a ∧ a.Ok w B ∧
    w.cell? ⟨g, o + j * 5, none⟩ = some (.int .u8 (a.kind : Int)) ∧ w.cell? ⟨g, o + j * 5 + 1, none⟩ = some (.int .i64 a.sec) ∧ w.cell? ⟨g, o + j * 5 + 2, none⟩ = some (.int .i64 a.num) ∧
    w.cell? ⟨g, o + j * 5 + 3, none⟩ = some (.slice a.bA a.bn a.bc) ∧ w.cell? ⟨g, o + j * 5 + 4, none⟩ = some (.slice a.kA a.kn a.kc) := by
  obtain ⟨g, o, e, hg, hc⟩ := h.rd (by omega)
  have hj' : j < l.length := by rw [h.len]; exact hj
  have ha : l[j]? = some l[j] := List.getElem?_eq_getElem hj'
  have cell := fun (k : Nat) (v : Value) (hv : (l[j]).cells[k]? = some v) => hc j _ ha k v hv
  exact ⟨g, o, l[j], e, hg, ha, h.each _ (List.getElem_mem hj'), cell 0 _ rfl, cell 1 _ rfl, cell 2 _ rfl, cell 3 _ rfl, cell 4 _ rfl⟩

section
variable {H : Type} {enc : TypeId × Value → H} {P : Program} {w : World} {base : Nat} {spare : Nat → Bool} {held : Bool}

theorem trod_bytes {t e : TypeId} {fuel : Nat} {cs : List Value} {x : DataW H × List MemPlace} (ht : P.underlying t = some (.slice e)) (he : P.underlying e = some (.int .u8)) (hce : P.cellsOf e = 1)
    (hsp : ∀ g, spare g = true) (h : DataW.trod enc P w base spare held fuel t cs = some x) : ∃ (A : Option Addr) (n c : Nat) (l : List Nat), cs = [.slice A n c] ∧ Bs w w.heap.size A n c l := by
  rcases open_ints ht he hce h with ⟨rfl, _⟩ | ⟨a, l, c, zs, rfl, _, hl, hm, hz, _, hcell, hwz⟩
  · exact ⟨none, 0, 0, [], rfl, rfl, Nat.le_refl _, by omega, Rd.nil_, fun _ => rfl⟩
  · rw [hsp, if_pos rfl] at hz
    exact ⟨_, _, _, _, rfl, bs_of_row hl hm hz hcell hwz⟩
theorem trod_bools {t e : TypeId} {fuel : Nat} {cs : List Value} {x : DataW H × List MemPlace} (ht : P.underlying t = some (.slice e)) (he : P.underlying e = some .bool) (hce : P.cellsOf e = 1)
    (h : DataW.trod enc P w base spare held fuel t cs = some x) : ∃ (A : Option Addr) (n c : Nat) (l : List Bool), cs = [.slice A n c] ∧ Vs w w.heap.size A n c (l.map .bool) := by
  rcases open_slice1 ht hce h with ⟨rfl, _⟩ | ⟨a, len, cap, m, n, V, D, Pl, rfl, _, hl, hm, hmm, _, hi⟩
  · exact ⟨none, 0, 0, [], rfl, rfl, Nat.le_refl _, by omega, fun h => absurd h (by omega), fun _ => rfl⟩
  · have hle : len ≤ m := by rw [hmm]; split <;> omega
    have each : ∀ i, i < len → ∃ b : Bool, w.cell? (a.add i) = some (.bool b) := fun i hil => by
      obtain ⟨h1, h2⟩ := hi i (by omega)
      obtain ⟨b, hb, _⟩ := DataW.trod_bool he h2
      injection hb with hb
      rw [hb] at h1
      exact ⟨b, h1⟩
    obtain ⟨f, hf⟩ := choose_lt each
    refine ⟨some a, len, cap, (List.range len).map f, rfl, by simp, hl, by unfold maxLen at hm; exact hm, fun hn => ?_, fun h => by cases h⟩
    obtain ⟨g, o, spot⟩ := a
    have hc := hf 0 hn
    have hspot : spot = none := by simpa [Addr.add] using World.cell?_spot hc
    subst hspot
    refine ⟨g, o, rfl, ?_, fun j v hv => ?_⟩
    · have := World.block_lt_of_cell? w _ hc
      simpa [Addr.add] using this
    · rw [List.getElem?_map, List.getElem?_map] at hv
      obtain ⟨b, hb, rfl⟩ := Option.map_eq_some_iff.1 hv
      obtain ⟨i, hi2, rfl⟩ := Option.map_eq_some_iff.1 hb
      obtain ⟨hjl, hji⟩ := List.getElem?_eq_some_iff.1 hi2
      simp at hjl hji
      subst hji
      have := hf j hjl
      rwa [Addr.add_lit] at this

/-- What is known of the act's type. -/
structure ActTy (P : Program) (e t8 ti tb tk e8 eb : TypeId) : Prop where
  fs : ∃ f0 f1 f2 f3 f4 : Field, P.underlying e = some (.struct #[f0, f1, f2, f3, f4]) ∧ (f0.type = t8 ∧ f0.offset = 0) ∧ (f1.type = ti ∧ f1.offset = 1) ∧ (f2.type = ti ∧ f2.offset = 2) ∧ (f3.type = tb ∧ f3.offset = 3) ∧ (f4.type = tk ∧ f4.offset = 4)
  cells : P.cellsOf e = 5
  one : P.cellsOf t8 = 1 ∧ P.cellsOf ti = 1 ∧ P.cellsOf tb = 1 ∧ P.cellsOf tk = 1 ∧ P.cellsOf eb = 1
  u8 : P.underlying t8 = some (.int .u8)
  i64 : P.underlying ti = some (.int .i64)
  bytes : P.underlying tb = some (.slice e8) ∧ P.underlying e8 = some (.int .u8) ∧ P.cellsOf e8 = 1
  keep : P.underlying tk = some (.slice eb) ∧ P.underlying eb = some .bool

theorem trod_act {e t8 ti tb tk e8 eb : TypeId} (T : ActTy P e t8 ti tb tk e8 eb) (hsp : ∀ g, spare g = true) {fuel : Nat} {cs : List Value} {x : DataW H × List MemPlace} (h : DataW.trod enc P w base spare held fuel e cs = some x) : ∃ a : Act5, cs = a.cells ∧ a.Ok w w.heap.size := by
  obtain ⟨f0, f1, f2, f3, f4, hs, ⟨y0, o0⟩, ⟨y1, o1⟩, ⟨y2, o2⟩, ⟨y3, o3⟩, y4, o4⟩ := T.fs
  obtain ⟨xs, n, _, _, hcl, hxl, hg⟩ := DataW.trod_struct hs h
  rw [T.cells] at hcl
  match cs, hcl, xs, hxl with
  | [c0, c1, c2, c3, c4], _, [x0, x1, x2, x3, x4], _ =>
    have g0 := hg 0 f0 rfl
    have g1 := hg 1 f1 rfl
    have g2 := hg 2 f2 rfl
    have g3 := hg 3 f3 rfl
    have g4 := hg 4 f4 rfl
    rw [y0, o0, T.one.1] at g0
    rw [y1, o1, T.one.2.1] at g1
    rw [y2, o2, T.one.2.1] at g2
    rw [y3, o3, T.one.2.2.1] at g3
    rw [y4, o4, T.one.2.2.2.1] at g4
    obtain ⟨k, e0, _, hk⟩ := DataW.trod_int T.u8 (show DataW.trod enc P w base spare held n t8 [c0] = some x0 from g0)
    obtain ⟨s, e1, _, hsc⟩ := DataW.trod_int T.i64 (show DataW.trod enc P w base spare held n ti [c1] = some x1 from g1)
    obtain ⟨m, e2, _, hm⟩ := DataW.trod_int T.i64 (show DataW.trod enc P w base spare held n ti [c2] = some x2 from g2)
    obtain ⟨bA, bn, bc, bl, e3, hb⟩ := trod_bytes T.bytes.1 T.bytes.2.1 T.bytes.2.2 hsp (show DataW.trod enc P w base spare held n tb [c3] = some x3 from g3)
    obtain ⟨kA, kn, kc, kl, e4, hkp⟩ := trod_bools T.keep.1 T.keep.2 T.one.2.2.2.2 (show DataW.trod enc P w base spare held n tk [c4] = some x4 from g4)
    injection e0 with e0 _
    injection e1 with e1 _
    injection e2 with e2 _
    injection e3 with e3 _
    injection e4 with e4 _
    have hk8 := bounds_u8 hk
    refine ⟨{ kind := k.toNat, sec := s, num := m, bA := bA, bn := bn, bc := bc, bl := bl, kA := kA, kn := kn, kc := kc, kl := kl }, ?_, ⟨by show k.toNat < 256; omega, hsc, hm, hb, hkp⟩⟩
    rw [e0, e1, e2, e3, e4]
    show _ = [Value.int .u8 ((k.toNat : Nat) : Int), _, _, _, _]
    rw [Int.toNat_of_nonneg hk8.1]

theorem trod_acts {t e t8 ti tb tk e8 eb : TypeId} (ht : P.underlying t = some (.slice e)) (T : ActTy P e t8 ti tb tk e8 eb) (hsp : ∀ g, spare g = true) {fuel : Nat} {cs : List Value} {x : DataW H × List MemPlace} (h : DataW.trod enc P w base spare held fuel t cs = some x) :
    ∃ (A : Option Addr) (n c : Nat) (l : List Act5), cs = [.slice A n c] ∧ Acts w w.heap.size A n c l := by
  rcases open_slice ht h with ⟨rfl, _⟩ | ⟨a, len, cap, m, n, D, Pl, rfl, _, hl, hm, hmm, _, hi⟩
  · exact ⟨none, 0, 0, [], rfl, rfl, Nat.le_refl _, by omega, fun a ha => (by cases ha), fun h => absurd h (by omega), fun _ => rfl⟩
  · have hle : len ≤ m := by rw [hmm]; split <;> omega
    have each : ∀ i, i < len → ∃ b : Act5, (∀ k v, b.cells[k]? = some v → w.cell? ((a.add (i * 5)).add k) = some v) ∧ b.Ok w w.heap.size := fun i hil => by
      obtain ⟨cs', h1, h2⟩ := hi i (by omega)
      rw [T.cells] at h1
      obtain ⟨_, _, hcell⟩ := World.cells?_some h1
      obtain ⟨b, rfl, hb⟩ := trod_act T hsp h2
      refine ⟨b, fun k v hv => ?_, hb⟩
      have hk5 : k < 5 := (List.getElem?_eq_some_iff.1 hv).1
      rw [hcell k hk5, hv]
    obtain ⟨f, hf⟩ := choose_lt each
    refine ⟨some a, len, cap, (List.range len).map f, rfl, by simp, hl, by unfold maxLen at hm; exact hm, fun b hb => ?_, fun hn => ?_, fun h => by cases h⟩
    · obtain ⟨i, hil, rfl⟩ := List.mem_map.1 hb
      exact (hf i (List.mem_range.1 hil)).2
    · obtain ⟨g, o, spot⟩ := a
      have hc := (hf 0 hn).1 0 _ rfl
      have hspot : spot = none := by simpa [Addr.add] using World.cell?_spot hc
      subst hspot
      refine ⟨g, o, rfl, ?_, fun j b hb k v hv => ?_⟩
      · have := World.block_lt_of_cell? w _ hc
        simpa [Addr.add] using this
      · rw [List.getElem?_map] at hb
        obtain ⟨i, hi2, rfl⟩ := Option.map_eq_some_iff.1 hb
        obtain ⟨hjl, hji⟩ := List.getElem?_eq_some_iff.1 hi2
        simp at hjl hji
        subst hji
        have := (hf j hjl).1 k v hv
        rw [Addr.add_lit, Addr.add_lit, Nat.add_assoc] at this
        exact this

theorem open_acts {t e t8 ti tb tk e8 eb : TypeId} (ht : P.underlying t = some (.slice e)) (T : ActTy P e t8 ti tb tk e8 eb) {r : Reach} {b0 : Nat} {v : Value} {d : DataW H} {p : List MemPlace}
    (hv : Value.okWide P w r b0 t v) (h : DataW.Trod enc P w base (fun _ => true) held t v d p) : ∃ (A : Option Addr) (n c : Nat) (l : List Act5), v = .slice A n c ∧ Acts w w.heap.size A n c l := by
  obtain ⟨A, n, c, rfl⟩ := okWide_slice ht hv
  obtain ⟨fuel, hf⟩ := h
  obtain ⟨A', n', c', l, hcs, hl⟩ := trod_acts ht T (fun _ => rfl) hf
  simp [Value.cells] at hcs
  obtain ⟨rfl, rfl, rfl⟩ := hcs
  exact ⟨_, _, _, l, rfl, hl⟩
theorem open_bools {t e : TypeId} (ht : P.underlying t = some (.slice e)) (he : P.underlying e = some .bool) (hce : P.cellsOf e = 1) {r : Reach} {b0 : Nat} {v : Value} {d : DataW H} {p : List MemPlace}
    (hv : Value.okWide P w r b0 t v) (h : DataW.Trod enc P w base (fun _ => true) held t v d p) : ∃ (A : Option Addr) (n c : Nat) (l : List Bool), v = .slice A n c ∧ Vs w w.heap.size A n c (l.map .bool) := by
  obtain ⟨A, n, c, rfl⟩ := okWide_slice ht hv
  obtain ⟨fuel, hf⟩ := h
  obtain ⟨A', n', c', l, hcs, hl⟩ := trod_bools ht he hce hf
  simp [Value.cells] at hcs
  obtain ⟨rfl, rfl, rfl⟩ := hcs
  exact ⟨_, _, _, l, rfl, hl⟩
theorem open_act {e t8 ti tb tk e8 eb : TypeId} (T : ActTy P e t8 ti tb tk e8 eb) {r : Reach} {b0 : Nat} {v : Value} {d : DataW H} {p : List MemPlace}
    (hv : Value.okWide P w r b0 e v) (h : DataW.Trod enc P w base (fun _ => true) held e v d p) : ∃ a : Act5, v = .agg #[.int .u8 (a.kind : Int), .int .i64 a.sec, .int .i64 a.num, .slice a.bA a.bn a.bc, .slice a.kA a.kn a.kc] ∧ a.Ok w w.heap.size := by
  obtain ⟨f0, f1, f2, f3, f4, hs, _⟩ := T.fs
  obtain ⟨cs, rfl, _⟩ := okWide_struct hs hv
  obtain ⟨fuel, hf⟩ := h
  obtain ⟨a, hcs, ha⟩ := trod_act T (fun _ => rfl) hf
  refine ⟨a, ?_, ha⟩
  have e1 : cs.toList = a.cells := hcs
  rw [show cs = a.cells.toArray from by rw [← e1]]
  rfl
end
end Go.Proofs.Ytmohjofjfekjfaa

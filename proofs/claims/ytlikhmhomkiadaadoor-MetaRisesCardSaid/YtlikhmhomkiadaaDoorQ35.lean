/-
  Lists of lists of bytes that came in, opened; arrays of two integers, of two bools; over any program with such types.
  The cells' calls at a disk made since a world; the statements' own loads, stored, great.
  Faults at a disk with cells; the contract of the cells' statements' own first look at the chapter's example.
  A call's own blocks beside a disk: what they hold, and that they are none of the disk's.
  Meta's calls at a disk made since a world; what they come to with power and without, as equations.
  The contract of meta's statements' own first look at the chapter's example.
-/
import Derived.Test.YtlikhmhomkiadaaDoorQ06
import Derived.Test.YtlikhmhomkiadaaDoorQ11
import Derived.Test.YtlikhmhomkiadaaDoorQ24
import Derived.Test.YtlikhmhomkiadaaDoorQ26
import Derived.Test.YtlikhmhomkiadaaDoorQ30
import Derived.Test.YtlikhmhomkiadaaDoorQ32
import Derived.Test.YtlikhmhomkiadaaDoorQ34
import Derived.Laws.IdiomArrays
namespace Go.Proofs.YtlikhmhomkiadaaDoor
set_option maxRecDepth 100000
open Go Go.RowKit Go.ChangeShapes Go.WideShapes Go.Deep

/-- A list of bytes: where it lies, and what it holds. -/
structure Lst where
  A : Option Addr := none
  n : Nat := 0
  c : Nat := 0
  l : List Nat := []
instance : Inhabited Lst := ⟨{}⟩
def Lst.Ok (a : Lst) (w : World) (B : Nat) : Prop := Bs w B a.A a.n a.c a.l
/-- A list of them. -/
structure Lsts (w : World) (B : Nat) (A : Option Addr) (n c : Nat) (l : List Lst) : Prop where
  len : l.length = n
  cap : n ≤ c
  most : c ≤ 9223372036854775807
  each : ∀ a ∈ l, a.Ok w B
  rd : 0 < n → ∃ g o, A = some ⟨g, o, none⟩ ∧ g < B ∧ ∀ j a, l[j]? = some a → w.cell? ⟨g, o + j, none⟩ = some (.slice a.A a.n a.c)
  nil_ : A = none → c = 0
theorem Lsts.below {w w' : World} {B : Nat} {A : Option Addr} {n c : Nat} {l : List Lst} (h : Lsts w B A n c l) (hb : Below B w w') : Lsts w' B A n c l :=
  ⟨h.len, h.cap, h.most, fun a ha => (h.each a ha).below hb, fun hn => by
    obtain ⟨g, o, e, hg, hc⟩ := h.rd hn
    exact ⟨g, o, e, hg, fun j a ha => (hb.cell (p := ⟨g, o + j, none⟩) hg).trans (hc j a ha)⟩, h.nil_⟩
theorem Lsts.more {w : World} {B B' : Nat} {A : Option Addr} {n c : Nat} {l : List Lst} (h : Lsts w B A n c l) (hB : B ≤ B') : Lsts w B' A n c l :=
  ⟨h.len, h.cap, h.most, fun a ha => (h.each a ha).more hB, fun hn => by
    obtain ⟨g, o, e, hg, hc⟩ := h.rd hn
    exact ⟨g, o, e, by omega, hc⟩, h.nil_⟩
theorem Lsts.at_ {w : World} {B : Nat} {A : Option Addr} {n c : Nat} {l : List Lst} (h : Lsts w B A n c l) {j : Nat} (hj : j < n) : ∃ g o a, A = some ⟨g, o, none⟩ ∧ g < B ∧ l[j]? = some a ∧ Bs w B a.A a.n a.c a.l ∧
    w.cell? ⟨g, o + j, none⟩ = some (.slice a.A a.n a.c) := by
  obtain ⟨g, o, e, hg, hc⟩ := h.rd (by omega)
  have hj' : j < l.length := by rw [h.len]; exact hj
  have ha : l[j]? = some l[j] := List.getElem?_eq_getElem hj'
  exact ⟨g, o, l[j], e, hg, ha, h.each _ (List.getElem_mem hj'), hc j _ ha⟩

section
variable {H : Type} {enc : TypeId × Value → H} {P : Program} {w : World} {base : Nat} {spare : Nat → Bool} {held : Bool}

theorem trod_lists {t e b : TypeId} {fuel : Nat} {cs : List Value} {x : DataW H × List MemPlace} (ht : P.underlying t = some (.slice e)) (he : P.underlying e = some (.slice b)) (hb : P.underlying b = some (.int .u8)) (hce : P.cellsOf e = 1) (hcb : P.cellsOf b = 1)
    (hsp : ∀ g, spare g = true) (h : DataW.trod enc P w base spare held fuel t cs = some x) : ∃ (A : Option Addr) (n c : Nat) (l : List Lst), cs = [.slice A n c] ∧ Lsts w w.heap.size A n c l := by
  rcases open_slice1 ht hce h with ⟨rfl, _⟩ | ⟨a, len, cap, m, n, V, D, Pl, rfl, _, hl, hm, hmm, _, hi⟩
  · exact ⟨none, 0, 0, [], rfl, rfl, Nat.le_refl _, by omega, fun a ha => (by cases ha), fun h => absurd h (by omega), fun _ => rfl⟩
  · have hle : len ≤ m := by rw [hmm]; split <;> omega
    have each : ∀ i, i < len → ∃ q : Lst, w.cell? (a.add i) = some (.slice q.A q.n q.c) ∧ q.Ok w w.heap.size := fun i hil => by
      obtain ⟨h1, h2⟩ := hi i (by omega)
      obtain ⟨A, k, c, l, hcs, hok⟩ := trod_bytes he hb hcb hsp h2
      injection hcs with hcs
      rw [hcs] at h1
      exact ⟨⟨A, k, c, l⟩, h1, hok⟩
    obtain ⟨f, hf⟩ := choose_lt each
    refine ⟨some a, len, cap, (List.range len).map f, rfl, by simp, hl, by unfold maxLen at hm; exact hm, fun b hb => ?_, fun hn => ?_, fun h => by cases h⟩
    · obtain ⟨i, hil, rfl⟩ := List.mem_map.1 hb
      exact (hf i (List.mem_range.1 hil)).2
    · obtain ⟨g, o, spot⟩ := a
      have hc := (hf 0 hn).1
      have hspot : spot = none := by simpa [Addr.add] using World.cell?_spot hc
      subst hspot
      refine ⟨g, o, rfl, ?_, fun j b hb => ?_⟩
      · have := World.block_lt_of_cell? w _ hc
        simpa [Addr.add] using this
      · rw [List.getElem?_map] at hb
        obtain ⟨i, hi2, rfl⟩ := Option.map_eq_some_iff.1 hb
        obtain ⟨hjl, hji⟩ := List.getElem?_eq_some_iff.1 hi2
        simp at hjl hji
        subst hji
        have := (hf j hjl).1
        rwa [Addr.add_lit] at this
theorem open_lists {t e b : TypeId} (ht : P.underlying t = some (.slice e)) (he : P.underlying e = some (.slice b)) (hb : P.underlying b = some (.int .u8)) (hce : P.cellsOf e = 1) (hcb : P.cellsOf b = 1) {r : Reach} {b0 : Nat} {v : Value} {d : DataW H} {p : List MemPlace}
    (hv : Value.okWide P w r b0 t v) (h : DataW.Trod enc P w base (fun _ => true) held t v d p) : ∃ (A : Option Addr) (n c : Nat) (l : List Lst), v = .slice A n c ∧ Lsts w w.heap.size A n c l := by
  obtain ⟨A, n, c, rfl⟩ := okWide_slice ht hv
  obtain ⟨fuel, hf⟩ := h
  obtain ⟨A', n', c', l, hcs, hl⟩ := trod_lists ht he hb hce hcb (fun _ => rfl) hf
  simp [Value.cells] at hcs
  obtain ⟨rfl, rfl, rfl⟩ := hcs
  exact ⟨_, _, _, l, rfl, hl⟩
theorem trod_array2 {t e : TypeId} {fuel : Nat} {c0 c1 : Value} {x : DataW H × List MemPlace} (ht : P.underlying t = some (.array 2 e)) (hce : P.cellsOf e = 1)
    (h : DataW.trod enc P w base spare held fuel t [c0, c1] = some x) :
    ∃ y0 y1 n, x = (.agg [y0.1, y1.1], y0.2 ++ y1.2) ∧ DataW.trod enc P w base spare held n e [c0] = some y0 ∧ DataW.trod enc P w base spare held n e [c1] = some y1 := by
  cases fuel with
  | zero => simp [DataW.trod] at h
  | succ n =>
    unfold DataW.trod at h
    rw [ht] at h
    have r2 : List.range 2 = [0, 1] := rfl
    simp [r2, hce] at h
    obtain ⟨_, h⟩ := h
    cases h0 : DataW.trod enc P w base spare held n e [c0] with
    | none => simp [h0] at h
    | some y0 =>
      cases h1 : DataW.trod enc P w base spare held n e [c1] with
      | none => simp [h0, h1] at h
      | some y1 =>
        simp [h0, h1] at h
        exact ⟨y0, y1, n, h.symm, h0, h1⟩
end
theorem open_arr2 {H : Type} {enc : TypeId × Value → H} {P : Program} {w : World} {base : Nat} {sp : Nat → Bool} {held : Bool} {r : Reach} {b0 : Nat} {t e : TypeId} {k : IntKind} {v : Value} {d : DataW H} {p : List MemPlace}
    (ht : P.underlying t = some (.array 2 e)) (he : P.underlying e = some (.int k)) (hce : P.cellsOf e = 1) (hC : P.cellsOf t = 2)
    (hv : Value.okWide P w r b0 t v) (h : DataW.Trod enc P w base sp held t v d p) : ∃ x y : Int, v = .agg #[.int k x, .int k y] ∧ (Lit.int k x).wf = true ∧ (Lit.int k y).wf = true := by
  simp only [Value.okWide, ht] at hv
  obtain ⟨cs, rfl, hsz, _⟩ := hv
  rw [hC] at hsz
  obtain ⟨c0, c1, rfl⟩ : ∃ c0 c1, cs = #[c0, c1] := by
    obtain ⟨l⟩ := cs
    match l, hsz with
    | [c0, c1], _ => exact ⟨c0, c1, rfl⟩
  obtain ⟨fuel, hf⟩ := h
  obtain ⟨y0, y1, n, _, h0, h1⟩ := trod_array2 ht hce (show DataW.trod enc P w base sp held fuel t [c0, c1] = some (d, p) from hf)
  obtain ⟨x0, e0, _, w0⟩ := DataW.trod_int he h0
  obtain ⟨x1, e1, _, w1⟩ := DataW.trod_int he h1
  injection e0 with e0 _
  injection e1 with e1 _
  subst e0; subst e1
  exact ⟨x0, x1, rfl, w0, w1⟩
theorem open_arr2b {H : Type} {enc : TypeId × Value → H} {P : Program} {w : World} {base : Nat} {sp : Nat → Bool} {held : Bool} {r : Reach} {b0 : Nat} {t e : TypeId} {v : Value} {d : DataW H} {p : List MemPlace}
    (ht : P.underlying t = some (.array 2 e)) (he : P.underlying e = some .bool) (hce : P.cellsOf e = 1) (hC : P.cellsOf t = 2)
    (hv : Value.okWide P w r b0 t v) (h : DataW.Trod enc P w base sp held t v d p) : ∃ x y : Bool, v = .agg #[.bool x, .bool y] := by
  simp only [Value.okWide, ht] at hv
  obtain ⟨cs, rfl, hsz, _⟩ := hv
  rw [hC] at hsz
  obtain ⟨c0, c1, rfl⟩ : ∃ c0 c1, cs = #[c0, c1] := by
    obtain ⟨l⟩ := cs
    match l, hsz with
    | [c0, c1], _ => exact ⟨c0, c1, rfl⟩
  obtain ⟨fuel, hf⟩ := h
  obtain ⟨y0, y1, n, _, h0, h1⟩ := trod_array2 ht hce (show DataW.trod enc P w base sp held fuel t [c0, c1] = some (d, p) from hf)
  obtain ⟨x0, e0, _⟩ := DataW.trod_bool he h0
  obtain ⟨x1, e1, _⟩ := DataW.trod_bool he h1
  injection e0 with e0 _
  injection e1 with e1 _
  subst e0; subst e1
  exact ⟨x0, x1, rfl⟩
end Go.Proofs.YtlikhmhomkiadaaDoor

namespace Go.Proofs.YtlikhmhomkiadaaDoor
set_option maxRecDepth 100000
open Go Go.RowKit

theorem known0 {m : DM} {g : Int} (hs : m.size = 156) (hg : g = 1 ∨ g = 2) : knownC m.size 0 g = 0 := by
  unfold knownC
  rw [hs, if_neg (by omega), if_neg (by omega)]
section
variable {w0 w : World} {d : Nat} {F : Nat → Prop} {m : DM}
theorem DK.st (h : DK w0 w d F m) {m' : DM} {w' : World} (k : Step d F w m' w') : DK w0 w' d (grow F w w') m' := h.step k.1 k.2
theorem DK.laid (h : DK w0 w d F m) (hL : LaidF w0) : ∀ V, Mod F w V → LaidF V := fun _ hm => hL.ext (Below.mod h.bel hm h.bel.size h.low)
theorem Load_dk (h : DK w0 w d F m) (hL : LaidF w0) (r g : Int) (hk : knownC m.size r g = 0) (hfew : m.waits.length ≤ 1000000) : Calls Tryd.prog 47 #[.pointer (some ⟨d, 0, none⟩), .int .i64 r, .int .i64 g] w fun e w' => ∃ A N, e = .returned (.tuple #[.int .i64 (m.loadV r g : Nat), .slice A N N, .int .i64 (m.loadE r g)]) ∧ By w' A N N (m.loadB r g) ∧ Ext w w' :=
  Load_of h.disk (hL.ext h.bel) r g hfew hk
theorem Heal_dk (h : DK w0 w d F m) (hL : LaidF w0) (r g : Int) (hk : knownC m.size r g = 0) (hfew : m.waits.length + 1 ≤ 1000000) : Calls Tryd.prog 36 #[.pointer (some ⟨d, 0, none⟩), .int .i64 r, .int .i64 g] w fun e w' => e = .returned (.int .i64 (m.heal r g).1) ∧ DK w0 w' d (grow F w w') (m.heal r g).2 :=
  (Heal_of h.disk (hL.ext h.bel) r g hfew hk).mono fun _ _ ⟨h1, h2⟩ => ⟨h1, h.st h2⟩
theorem Store_dk (h : DK w0 w d F m) (hL : LaidF w0) (r g c : Int) (A : Option Addr) (n cp : Nat) (body : List Nat) (hb : By w A n cp body) (ho : ∀ g o, A = some ⟨g, o, none⟩ → 0 < n → ¬ F g) (hk : knownC m.size r g = 0) (hfew : m.waits.length + 2 ≤ 1000000) : Calls Tryd.prog 46 #[.pointer (some ⟨d, 0, none⟩), .int .i64 r, .int .i64 g, .int .i64 c, .slice A n cp] w fun e w' => e = .returned (.int .i64 (m.store r g c body).1) ∧ DK w0 w' d (grow F w w') (m.store r g c body).2 :=
  (Store_of h.disk (hL.ext h.bel) (h.laid hL) r g c A n cp body hb ho hfew hk).mono fun _ _ ⟨h1, h2⟩ => ⟨h1, h.st h2⟩
/-- Bytes that came in lie in none of the disk's blocks. -/
theorem DK.offB (h : DK w0 w d F m) {A : Option Addr} {n c : Nat} {l : List Nat} (hb : Bs w0 w0.heap.size A n c l) : ∀ g o, A = some ⟨g, o, none⟩ → 0 < n → ¬ F g := fun g o hA hn hf => by
  obtain ⟨g2, o2, e2, h2, _⟩ := hb.rd.2 (by rw [hb.len]; exact hn)
  rw [hA] at e2
  injection e2 with e2
  injection e2 with e3 _
  have h1 := h.low _ hf
  rw [e3] at h1
  exact absurd h2 (by show ¬ g2 < w0.heap.size; omega)
theorem DK.byIn (h : DK w0 w d F m) {A : Option Addr} {n c : Nat} {l : List Nat} (hb : Bs w0 w0.heap.size A n c l) : By w A n c l := (hb.below h.bel).more h.bel.size

end
/-- What great answers. -/
def GreatL (n : Nat) (l : List Lst) (w : World) (e : Ending) (w' : World) : Prop := ∃ b : Bool, e = .returned (.bool b) ∧ w = w' ∧ (b = false → n ≤ 20 ∧ ∀ a ∈ l, a.n ≤ 43)
/-- The body that was stored last, of k. -/
def bodyAt (l : List Lst) (k : Nat) : List Nat := if k = 0 then [] else (l.getD (k - 1) default).l
end Go.Proofs.YtlikhmhomkiadaaDoor

namespace Go.Proofs.YtlikhmhomkiadaaDoor
set_option maxRecDepth 100000
open Go Go.RowKit

section
variable {m : DM} {pw : Int} {s : Nat}
theorem CD.lose (h : CD m pw) (hs : s < 156) : ∃ m', m.lose (s : Int) = (0, m') ∧ CD m' pw ∧ ∀ t, m'.hold t = if t = s then [] else m.hold t := by
  have hok := DM.lose_ok h.b.ok (s : Int)
  have e : m.lose (s : Int) = (0, { m with lost := m.lost.set s true }) := by
    unfold DM.lose
    rw [if_neg (by rw [h.has hs]; simp), Int.toNat_natCast]
  rw [e] at hok
  refine ⟨_, e, ⟨⟨hok, h.b.size, h.b.waits, h.b.down⟩, h.dead, h.power⟩, fun t => ?_⟩
  have hl : s < m.lost.length := by rw [h.b.ok.lost, h.b.size]; exact hs
  show (if (m.lost.set s true).getD t false = true then [] else m.rest.getD t []) = _
  rw [getD_set hl]
  by_cases hst : s = t
  · rw [if_pos hst, if_pos rfl, if_pos hst.symm]
  · rw [if_neg hst, if_neg (show ¬ t = s from fun e => hst e.symm)]
    rfl
theorem CD.flip (h : CD m pw) (hs : s < 156) (hne : m.hold s ≠ []) (bit : Nat) : ∃ m', m.flip (s : Int) (bit : Int) = (0, m') ∧ CD m' pw ∧ ∀ t, m'.hold t = if t = s then flipB (m.hold s) (bit % 512) else m.hold t := by
  have hok := DM.flip_ok h.b.ok (s : Int) (bit : Int)
  have e : m.flip (s : Int) (bit : Int) = (0, { m with rest := m.rest.set s (flipB (m.rest.getD s []) (bit % 512)) }) := by
    unfold DM.flip
    rw [if_neg (by rw [h.has hs]; simp), Int.toNat_natCast, Int.toNat_natCast]
  rw [e] at hok
  have hnl : m.lost.getD s false = false := by
    unfold DM.hold at hne
    by_cases hl : m.lost.getD s false = true
    · rw [if_pos hl] at hne; exact absurd rfl hne
    · simpa using hl
  have hh : m.hold s = m.rest.getD s [] := by unfold DM.hold; rw [if_neg (by rw [hnl]; simp)]
  refine ⟨_, e, ⟨⟨hok, ?_, h.b.waits, h.b.down⟩, h.dead, h.power⟩, fun t => ?_⟩
  · show (m.rest.set s _).length = 156
    rw [List.length_set]
    exact h.b.size
  · have hl : s < m.rest.length := by have := h.b.size; unfold DM.size at this; omega
    show (if m.lost.getD t false = true then [] else (m.rest.set s _).getD t []) = _
    rw [getD_set hl]
    by_cases hst : s = t
    · subst hst
      rw [if_neg (by rw [hnl]; simp), if_pos rfl, if_pos rfl, hh]
    · rw [if_neg hst, if_neg (show ¬ t = s from fun e => hst e.symm)]
      rfl
end
theorem lose_dk {w0 w : World} {d : Nat} {F : Nat → Prop} {m m' : DM} (h : DK w0 w d F m) (s E : Int) (hl : m.lose s = (E, m')) : Calls Tryd.prog 23 #[.pointer (some ⟨d, 0, none⟩), .int .i64 s] w fun e w' => e = .returned (.int .i64 E) ∧ DK w0 w' d (grow F w w') m' := by
  have := lose_pd h.disk s
  rw [hl] at this
  exact this.mono fun e w' hh => ⟨hh.1, h.step hh.2.1 hh.2.2⟩
theorem new_dk {w0 w : World} (hx : Ext w0 w) : Calls Tryd.prog 16 #[.int .i64 156] w fun e w' => ∃ d F, e = .returned (.tuple #[.pointer (some ⟨d, 0, none⟩), .int .i64 0]) ∧ DK w0 w' d F (DM.new 156) :=
  (new_pdk 156 w (by omega) (by omega)).mono fun e w' ⟨d, h1, h2, h3⟩ => ⟨d, _, h1, h2, fun k hk => Nat.le_trans hx.size hk.1, hx.trans h3⟩
theorem off_newC {w0 w : World} {d : Nat} {F : Nat → Prop} {m : DM} (h : DK w0 w d F m) {n : Nat} : ∀ g o, (some ⟨w.heap.size, 0, none⟩ : Option Addr) = some ⟨g, o, none⟩ → 0 < n → ¬ F g := fun g o e _ hf => by
  injection e with e
  injection e with e _
  have := h.disk.lt g hf
  omega

end Go.Proofs.YtlikhmhomkiadaaDoor

namespace Go.Proofs.YtlikhmhomkiadaaDoor
open Go Go.RowKit

/-- The block g holds o, and is none of F. -/
structure Keep (w : World) (F : Nat → Prop) (g : Nat) (o : Obj) : Prop where
  row : w.heap[g]? = some o
  off : ¬ F g
section
variable {w w' : World} {F : Nat → Prop} {g d : Nat} {o : Obj} {m : DM}
theorem Keep.lt (h : Keep w F g o) : g < w.heap.size := (Array.getElem?_eq_some_iff.1 h.row).1
theorem Keep.new (h : PDisk w d F m) (o : Obj) : Keep (w.alloc o) F w.heap.size o := ⟨heap_alloc_new w o, fun hf => Nat.lt_irrefl _ (h.lt _ hf)⟩
theorem Keep.ext (h : Keep w F g o) (k : Ext w w') : Keep w' F g o := ⟨(k.block g h.lt).trans h.row, h.off⟩
theorem Keep.step (h : Keep w F g o) (k : Mod F w w') : Keep w' (grow F w w') g o := ⟨heap_mod h.row k h.off, fun hf => hf.elim h.off fun h2 => absurd h2.1 (Nat.not_le.2 h.lt)⟩
theorem Keep.mod {G : Nat → Prop} (h : Keep w F g o) (k : Mod G w w') (hg : ¬ G g) : Keep w' F g o := ⟨heap_mod h.row k hg, h.off⟩
end
end Go.Proofs.YtlikhmhomkiadaaDoor

namespace Go.Proofs.YtlikhmhomkiadaaDoor
open Go Go.RowKit

section
variable {w0 w : World} {d : Nat} {F : Nat → Prop} {m : DM}
theorem Begin_dk (h : DK w0 w d F m) (hL : LaidF w0) (r : Int) (hk : knownC m.size r 1 = 0) (hfew : m.waits.length + 3 ≤ 1000000) : Calls Tryd.prog 19 #[.pointer (some ⟨d, 0, none⟩), .int .i64 r] w fun e w' => e = .returned (.tuple #[.agg #[.int .i64 (m.beginU r).a, .int .i64 (m.beginU r).b, .int .i64 (m.beginU r).c], .int .i64 (m.beginU r).e]) ∧ DK w0 w' d (grow F w w') (m.beginU r).m ∧ Mod F w w' :=
  (beginU_of h.disk (hL.ext h.bel) (h.laid hL) r hk hfew).mono fun _ _ ⟨h1, h2⟩ => ⟨h1, h.st h2, h2.2⟩
theorem Promise_dk (h : DK w0 w d F m) (hL : LaidF w0) (r a b c x y : Int) (hk : knownC m.size r 1 = 0) (hfew : m.waits.length + 2 ≤ 1000000) : Calls Tryd.prog 18 #[.pointer (some ⟨d, 0, none⟩), .int .i64 r, .agg #[.int .i64 a, .int .i64 b, .int .i64 c], .agg #[.int .i64 x, .int .i64 y]] w fun e w' => e = .returned (.tuple #[.agg #[.int .i64 (m.promU r a b c x y).a, .int .i64 (m.promU r a b c x y).b, .int .i64 (m.promU r a b c x y).c], .int .i64 (m.promU r a b c x y).e]) ∧ DK w0 w' d (grow F w w') (m.promU r a b c x y).m ∧ Mod F w w' :=
  (promU_of h.disk (hL.ext h.bel) (h.laid hL) r a b c x y hk hfew).mono fun _ _ ⟨h1, h2⟩ => ⟨h1, h.st h2, h2.2⟩
end
theorem known_u {m : DM} {r : Int} (hs : m.size = 156) (hr : 0 ≤ r ∧ r < 7) : knownC m.size r 1 = 0 := by
  unfold knownC
  rw [hs, if_neg (by omega), if_neg (by omega)]
section
variable {m : DM} {pw r a b c : Int} {v : Nat} {body : List Nat}
theorem Told.eqs {o : UO} (h : Told r pw o a b c v body) :
    (∃ m1 q, o = ⟨0, a, b, c, m1⟩ ∧ -1 ≤ q ∧ (pw = -1 → q = -1) ∧ CD m1 q ∧ TwoU r m1 1 (v + 1) (uL a b c)) ∨
    (∃ m1, pw ≠ -1 ∧ o = ⟨5, 0, 0, 0, m1⟩ ∧ After m1 fun n => SomeU r n 1 v body ∨ SomeU r n 1 (v + 1) (uL a b c)) := by
  obtain ⟨e, x, y, z, m1⟩ := o
  rcases h.two with ⟨h1, h2, h3, h4, q, h5, h6, h7, h8⟩ | ⟨h0, h1, h2, h3, h4, h5⟩
  · dsimp only at h1 h2 h3 h4 h7 h8
    subst h1 h2 h3 h4
    exact .inl ⟨m1, q, rfl, h5, h6, h7, h8⟩
  · dsimp only at h1 h2 h3 h4 h5
    subst h1 h2 h3 h4
    exact .inr ⟨m1, h0, rfl, h5⟩
theorem Told.ok {o : UO} (h : Told r (-1) o a b c v body) : ∃ m1, o = ⟨0, a, b, c, m1⟩ ∧ CD m1 (-1) ∧ TwoU r m1 1 (v + 1) (uL a b c) := by
  rcases h.eqs with ⟨m1, q, h1, _, h2, h3, h4⟩ | ⟨_, h0, _⟩
  · obtain rfl := h2 rfl
    exact ⟨m1, h1, h3, h4⟩
  · exact absurd rfl h0
end
end Go.Proofs.YtlikhmhomkiadaaDoor

namespace Go.Proofs.YtlikhmhomkiadaaDoor
open Go Go.RowKit

theorem uExample : ∃ m1 m2 m4 : DM, (DM.new 156).beginU 3 = ⟨0, 0, 0, 1, m1⟩ ∧ CD m1 (-1) ∧ m1.promU 3 0 0 1 2 1 = ⟨0, 2, 1, 1, m2⟩ ∧ CD m2 (-1) ∧ m2.promU 3 2 1 1 2 0 = ⟨2, 0, 0, 0, m2⟩ ∧ m2.beginU 3 = ⟨0, 2, 1, 2, m4⟩ ∧ CD m4 (-1) := by
  have hr : (0 : Int) ≤ 3 ∧ (3 : Int) < 7 := by omega
  obtain ⟨m1, e1, c1, t1⟩ := ((two_someU (new_twoU (r := 3) (g := 1) (.inl rfl))).begun (A := 0) (B := 0) (C := 0) (.inl ⟨rfl, rfl, rfl, rfl⟩) hr CD.new (by omega) (by omega) (by omega)).ok
  obtain ⟨m2, e2, c2, t2⟩ := (t1.told (x := 2) (y := 1) (c := 1) hr c1 (by omega) (by omega) (by decide)).ok
  obtain ⟨m4, e4, c4, t4⟩ := ((two_someU t2).begun (A := 2) (B := 1) (C := 1) (Sto.of (by decide)) hr c2 (by omega) (by omega) (by omega)).ok
  exact ⟨m1, m2, m4, e1, c1, by rw [promU_yes (by decide), e2], c2, promU_no (by decide), e4, c4⟩
theorem uExBytes : uL 2 1 1 = [2, 0, 0, 0, 0, 0, 1, 1, 0, 0, 0, 0, 0] ∧ uR 2 1 1 = 0 := by decide

set_option maxRecDepth 100000 in
set_option maxHeartbeats 1600000 in
theorem uawake_any (w0 w : World) (hx : Ext w0 w) (hL : LaidF w0) : Calls Tryd.prog 15 #[] w fun e w' => e = .returned (.bool true) ∧ Ext w0 w' := by
  obtain ⟨m1, m2, m4, e1, d1, e2, d2, e3, e4, d4⟩ := uExample
  have HL := Lib.hid hL
  have HX := Lib.hid hx
  have P1 := Lib.hid (And.intro e1 d1)
  have P2 := Lib.hid (And.intro e2 d2)
  have P3 := Lib.hid e3
  have P4 := Lib.hid (And.intro e4 d4)
  clear hL hx e1 d1 e2 d2 e3 e4 d4
  go_enter Tryd.func15, Tryd.ntmps15
  go_wp2_with fail
  refine (new_dk HX.out).mono ?_
  rintro e w1 ⟨d, F1, rfl, hk⟩
  have HK := Lib.hid hk
  clear hk
  go_wp2_with fail
  have HT := Lib.hid (Keep.new HK.out.disk (.cells #[.int .i64 2, .int .i64 1] 23))
  have hst := Begin_dk (HK.out.ext ((Ext.refl w1).alloc (.cells #[.int .i64 2, .int .i64 1] 23))) HL.out 3 (by rfl) (by decide)
  rw [P1.out.1] at hst
  refine hst.mono ?_
  rintro e w2 ⟨rfl, hk, hm⟩
  have HK := Lib.hid hk
  have HT := Lib.hid (HT.out.step hm)
  clear hk hst hm
  have HA := Lib.hid (Keep.new HK.out.disk (.cells #[.int .i64 0, .int .i64 0, .int .i64 1] 25))
  have HT := Lib.hid (HT.out.ext ((Ext.refl w2).alloc (.cells #[.int .i64 0, .int .i64 0, .int .i64 1] 25)))
  have HK := Lib.hid (HK.out.ext ((Ext.refl w2).alloc (.cells #[.int .i64 0, .int .i64 0, .int .i64 1] 25)))
  obtain ⟨t0, t1⟩ := two_cells HT.out.row
  obtain ⟨⟨a0, a1, a2⟩, _⟩ := three_cells HA.out.row
  go_wp2_with fail
  have hst := Promise_dk HK.out HL.out 3 0 0 1 2 1 (known_u P1.out.2.b.size (by omega)) (by rw [P1.out.2.b.waits]; simp)
  rw [P2.out.1] at hst
  refine hst.mono ?_
  rintro e w3 ⟨rfl, hk, hm⟩
  have HK := Lib.hid hk
  have HT := Lib.hid (HT.out.step hm)
  have HA := Lib.hid (HA.out.step hm)
  clear hk hst hm t0 t1 a0 a1 a2
  have HY := Lib.hid (Keep.new HK.out.disk (.cells #[.int .i64 2, .int .i64 1, .int .i64 1] 25))
  have HT := Lib.hid (HT.out.ext ((Ext.refl w3).alloc (.cells #[.int .i64 2, .int .i64 1, .int .i64 1] 25)))
  have HA := Lib.hid (HA.out.ext ((Ext.refl w3).alloc (.cells #[.int .i64 2, .int .i64 1, .int .i64 1] 25)))
  have HK := Lib.hid (HK.out.ext ((Ext.refl w3).alloc (.cells #[.int .i64 2, .int .i64 1, .int .i64 1] 25)))
  obtain ⟨⟨y0, y1, y2⟩, _⟩ := three_cells HY.out.row
  go_wp2_with fail
  have hst := Promise_dk HK.out HL.out 3 2 1 1 2 0 (known_u P2.out.2.b.size (by omega)) (by rw [P2.out.2.b.waits]; simp)
  rw [P3.out] at hst
  refine hst.mono ?_
  rintro e w4 ⟨rfl, hk, hm⟩
  have HK := Lib.hid hk
  have HT := Lib.hid (HT.out.step hm)
  have HA := Lib.hid (HA.out.step hm)
  have HY := Lib.hid (HY.out.step hm)
  clear hk hst hm y0 y1 y2
  have HN := Lib.hid (Keep.new HK.out.disk (.cells #[.int .i64 0, .int .i64 0, .int .i64 0] 25))
  have HT := Lib.hid (HT.out.ext ((Ext.refl w4).alloc (.cells #[.int .i64 0, .int .i64 0, .int .i64 0] 25)))
  have HA := Lib.hid (HA.out.ext ((Ext.refl w4).alloc (.cells #[.int .i64 0, .int .i64 0, .int .i64 0] 25)))
  have HY := Lib.hid (HY.out.ext ((Ext.refl w4).alloc (.cells #[.int .i64 0, .int .i64 0, .int .i64 0] 25)))
  have HK := Lib.hid (HK.out.ext ((Ext.refl w4).alloc (.cells #[.int .i64 0, .int .i64 0, .int .i64 0] 25)))
  go_wp2_with fail
  have hst := Begin_dk HK.out HL.out 3 (known_u P2.out.2.b.size (by omega)) (by rw [P2.out.2.b.waits]; simp)
  rw [P4.out.1] at hst
  refine hst.mono ?_
  rintro e w5 ⟨rfl, hk, hm⟩
  have HK := Lib.hid hk
  have HT := Lib.hid (HT.out.step hm)
  have HA := Lib.hid (HA.out.step hm)
  have HY := Lib.hid (HY.out.step hm)
  have HN := Lib.hid (HN.out.step hm)
  clear hk hst hm
  have HC := Lib.hid (Keep.new HK.out.disk (.cells #[.int .i64 2, .int .i64 1, .int .i64 2] 25))
  have HT := Lib.hid (HT.out.ext ((Ext.refl w5).alloc (.cells #[.int .i64 2, .int .i64 1, .int .i64 2] 25)))
  have HA := Lib.hid (HA.out.ext ((Ext.refl w5).alloc (.cells #[.int .i64 2, .int .i64 1, .int .i64 2] 25)))
  have HY := Lib.hid (HY.out.ext ((Ext.refl w5).alloc (.cells #[.int .i64 2, .int .i64 1, .int .i64 2] 25)))
  have HN := Lib.hid (HN.out.ext ((Ext.refl w5).alloc (.cells #[.int .i64 2, .int .i64 1, .int .i64 2] 25)))
  have HK := Lib.hid (HK.out.ext ((Ext.refl w5).alloc (.cells #[.int .i64 2, .int .i64 1, .int .i64 2] 25)))
  obtain ⟨⟨y0, y1, y2⟩, _⟩ := three_cells HY.out.row
  go_wp2_with fail
  refine (printU_any 2 1 1 _ (HL.out.ext HK.out.bel).a.o).mono ?_
  rw [uExBytes.1, uExBytes.2]
  rintro e w6 ⟨A, cp, rfl, hb, _, hx⟩
  have HB := Lib.hid hb
  have HT := Lib.hid (HT.out.ext hx)
  have HA := Lib.hid (HA.out.ext hx)
  have HY := Lib.hid (HY.out.ext hx)
  have HN := Lib.hid (HN.out.ext hx)
  have HC := Lib.hid (HC.out.ext hx)
  have HK := Lib.hid (HK.out.ext hx)
  clear hb hx y0 y1 y2
  obtain ⟨t0, t1⟩ := two_cells HT.out.row
  obtain ⟨⟨a0, a1, a2⟩, _⟩ := three_cells HA.out.row
  obtain ⟨⟨y0, y1, y2⟩, _⟩ := three_cells HY.out.row
  obtain ⟨⟨c0, c1, c2⟩, _⟩ := three_cells HC.out.row
  have heq := fun a b c a' b' c' => meta_eql a b c a' b' c'
  go_wp2_with fail
  have hbl := By.lit w6 [2, 0, 0, 0, 0, 0, 1, 1, 0, 0, 0, 0, 0] 5 (by decide) (by decide) _ rfl
  refine (same_by A _ [2, 0, 0, 0, 0, 0, 1, 1, 0, 0, 0, 0, 0] [2, 0, 0, 0, 0, 0, 1, 1, 0, 0, 0, 0, 0] 13 13 cp _ _ (HB.out.ext ((Ext.refl w6).alloc _)) hbl).mono ?_
  rw [decide_eq_true (rfl : [2, 0, 0, 0, 0, 0, 1, 1, 0, 0, 0, 0, 0] = [2, 0, 0, 0, 0, 0, 1, 1, 0, 0, 0, 0, 0])]
  rintro e w7 ⟨rfl, hx⟩
  have HK := Lib.hid ((HK.out.ext ((Ext.refl w6).alloc _)).ext hx)
  clear hbl hx heq
  go_wp2_with fail
  go_ret
  exact ⟨rfl, HK.out.bel⟩
end Go.Proofs.YtlikhmhomkiadaaDoor

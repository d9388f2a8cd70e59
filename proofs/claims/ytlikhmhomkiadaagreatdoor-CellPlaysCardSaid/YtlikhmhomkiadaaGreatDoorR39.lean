/-
  Lists of lists of bytes that came in, opened; arrays of two integers, of two bools; over any program with such types.
  The cells' calls at a disk made since a world; the statements' own loads, stored, great.
  The cells' calls, the program's and the document's, in one form for any replica and region of a disk of 156 sectors.
  A call's own blocks beside a disk: what they hold, and that they are none of the disk's.
-/
import Derived.Test.YtlikhmhomkiadaaGreatDoorR04
import Derived.Test.YtlikhmhomkiadaaGreatDoorR25
import Derived.Test.YtlikhmhomkiadaaGreatDoorR27
import Derived.Test.YtlikhmhomkiadaaGreatDoorR29
import Derived.Test.YtlikhmhomkiadaaGreatDoorR33
import Derived.Test.YtlikhmhomkiadaaGreatDoorR38
import Derived.Laws.IdiomArrays
namespace Go.Proofs.YtlikhmhomkiadaaGreatDoor
set_option maxRecDepth 100000
open Go Go.RowKit Go.ChangeShapes Go.WideShapes Go.Deep

/-- A list of bytes: where it lies, and what it holds. -/
structure Lst where
  A : Option Addr := none
  n : Nat := 0
  c : Nat := 0
  l : List Nat := []
instance : Inhabited Lst := ⟨{}⟩
def Lst.Ok (a : Lst) (w : World) (B : Nat) : Prop := Bs w B a.A a.n a.c a.l
/-- A list of them. -/
structure Lsts (w : World) (B : Nat) (A : Option Addr) (n c : Nat) (l : List Lst) : Prop where
  len : l.length = n
  cap : n ≤ c
  most : c ≤ 9223372036854775807
  each : ∀ a ∈ l, a.Ok w B
  rd : 0 < n → ∃ g o, A = some ⟨g, o, none⟩ ∧ g < B ∧ ∀ j a, l[j]? = some a → w.cell? ⟨g, o + j, none⟩ = some (.slice a.A a.n a.c)
  nil_ : A = none → c = 0
theorem Lsts.below {w w' : World} {B : Nat} {A : Option Addr} {n c : Nat} {l : List Lst} (h : Lsts w B A n c l) (hb : Below B w w') : Lsts w' B A n c l :=
  ⟨h.len, h.cap, h.most, fun a ha => (h.each a ha).below hb, fun hn => by
    obtain ⟨g, o, e, hg, hc⟩ := h.rd hn
    exact ⟨g, o, e, hg, fun j a ha => (hb.cell (p := ⟨g, o + j, none⟩) hg).trans (hc j a ha)⟩, h.nil_⟩
theorem Lsts.more {w : World} {B B' : Nat} {A : Option Addr} {n c : Nat} {l : List Lst} (h : Lsts w B A n c l) (hB : B ≤ B') : Lsts w B' A n c l :=
  ⟨h.len, h.cap, h.most, fun a ha => (h.each a ha).more hB, fun hn => by
    obtain ⟨g, o, e, hg, hc⟩ := h.rd hn
    exact ⟨g, o, e, by omega, hc⟩, h.nil_⟩
theorem Lsts.at_ {w : World} {B : Nat} {A : Option Addr} {n c : Nat} {l : List Lst} (h : Lsts w B A n c l) {j : Nat} (hj : j < n) : ∃ g o a, A = some ⟨g, o, none⟩ ∧ g < B ∧ l[j]? = some a ∧ Bs w B a.A a.n a.c a.l ∧
    w.cell? ⟨g, o + j, none⟩ = some (.slice a.A a.n a.c) := by
  obtain ⟨g, o, e, hg, hc⟩ := h.rd (by omega)
  have hj' : j < l.length := by rw [h.len]; exact hj
  have ha : l[j]? = some l[j] := List.getElem?_eq_getElem hj'
  exact ⟨g, o, l[j], e, hg, ha, h.each _ (List.getElem_mem hj'), hc j _ ha⟩

section
variable {H : Type} {enc : TypeId × Value → H} {P : Program} {w : World} {base : Nat} {spare : Nat → Bool} {held : Bool}

theorem trod_lists {t e b : TypeId} {fuel : Nat} {cs : List Value} {x : DataW H × List MemPlace} (ht : P.underlying t = some (.slice e)) (he : P.underlying e = some (.slice b)) (hb : P.underlying b = some (.int .u8)) (hce : P.cellsOf e = 1) (hcb : P.cellsOf b = 1)
    (hsp : ∀ g, spare g = true) (h : DataW.trod enc P w base spare held fuel t cs = some x) : ∃ (A : Option Addr) (n c : Nat) (l : List Lst), cs = [.slice A n c] ∧ Lsts w w.heap.size A n c l := by
  rcases open_slice1 ht hce h with ⟨rfl, _⟩ | ⟨a, len, cap, m, n, V, D, Pl, rfl, _, hl, hm, hmm, _, hi⟩
  · exact ⟨none, 0, 0, [], rfl, rfl, Nat.le_refl _, by omega, fun a ha => (by cases ha), fun h => absurd h (by omega), fun _ => rfl⟩
  · have hle : len ≤ m := by rw [hmm]; split <;> omega
    have each : ∀ i, i < len → ∃ q : Lst, w.cell? (a.add i) = some (.slice q.A q.n q.c) ∧ q.Ok w w.heap.size := fun i hil => by
      obtain ⟨h1, h2⟩ := hi i (by omega)
      obtain ⟨A, k, c, l, hcs, hok⟩ := trod_bytes he hb hcb hsp h2
      injection hcs with hcs
      rw [hcs] at h1
      exact ⟨⟨A, k, c, l⟩, h1, hok⟩
    obtain ⟨f, hf⟩ := choose_lt each
    refine ⟨some a, len, cap, (List.range len).map f, rfl, by simp, hl, by unfold maxLen at hm; exact hm, fun b hb => ?_, fun hn => ?_, fun h => by cases h⟩
    · obtain ⟨i, hil, rfl⟩ := List.mem_map.1 hb
      exact (hf i (List.mem_range.1 hil)).2
    · obtain ⟨g, o, spot⟩ := a
      have hc := (hf 0 hn).1
      have hspot : spot = none := by simpa [Addr.add] using World.cell?_spot hc
      subst hspot
      refine ⟨g, o, rfl, ?_, fun j b hb => ?_⟩
      · have := World.block_lt_of_cell? w _ hc
        simpa [Addr.add] using this
      · rw [List.getElem?_map] at hb
        obtain ⟨i, hi2, rfl⟩ := Option.map_eq_some_iff.1 hb
        obtain ⟨hjl, hji⟩ := List.getElem?_eq_some_iff.1 hi2
        simp at hjl hji
        subst hji
        have := (hf j hjl).1
        rwa [Addr.add_lit] at this
theorem open_lists {t e b : TypeId} (ht : P.underlying t = some (.slice e)) (he : P.underlying e = some (.slice b)) (hb : P.underlying b = some (.int .u8)) (hce : P.cellsOf e = 1) (hcb : P.cellsOf b = 1) {r : Reach} {b0 : Nat} {v : Value} {d : DataW H} {p : List MemPlace}
    (hv : Value.okWide P w r b0 t v) (h : DataW.Trod enc P w base (fun _ => true) held t v d p) : ∃ (A : Option Addr) (n c : Nat) (l : List Lst), v = .slice A n c ∧ Lsts w w.heap.size A n c l := by
  obtain ⟨A, n, c, rfl⟩ := okWide_slice ht hv
  obtain ⟨fuel, hf⟩ := h
  obtain ⟨A', n', c', l, hcs, hl⟩ := trod_lists ht he hb hce hcb (fun _ => rfl) hf
  simp [Value.cells] at hcs
  obtain ⟨rfl, rfl, rfl⟩ := hcs
  exact ⟨_, _, _, l, rfl, hl⟩
theorem trod_array2 {t e : TypeId} {fuel : Nat} {c0 c1 : Value} {x : DataW H × List MemPlace} (ht : P.underlying t = some (.array 2 e)) (hce : P.cellsOf e = 1)
    (h : DataW.trod enc P w base spare held fuel t [c0, c1] = some x) :
    ∃ y0 y1 n, x = (.agg [y0.1, y1.1], y0.2 ++ y1.2) ∧ DataW.trod enc P w base spare held n e [c0] = some y0 ∧ DataW.trod enc P w base spare held n e [c1] = some y1 := by
  cases fuel with
  | zero => simp [DataW.trod] at h
  | succ n =>
    unfold DataW.trod at h
    rw [ht] at h
    have r2 : List.range 2 = [0, 1] := rfl
    simp [r2, hce] at h
    obtain ⟨_, h⟩ := h
    cases h0 : DataW.trod enc P w base spare held n e [c0] with
    | none => simp [h0] at h
    | some y0 =>
      cases h1 : DataW.trod enc P w base spare held n e [c1] with
      | none => simp [h0, h1] at h
      | some y1 =>
        simp [h0, h1] at h
        exact ⟨y0, y1, n, h.symm, h0, h1⟩
end
theorem open_arr2 {H : Type} {enc : TypeId × Value → H} {P : Program} {w : World} {base : Nat} {sp : Nat → Bool} {held : Bool} {r : Reach} {b0 : Nat} {t e : TypeId} {k : IntKind} {v : Value} {d : DataW H} {p : List MemPlace}
    (ht : P.underlying t = some (.array 2 e)) (he : P.underlying e = some (.int k)) (hce : P.cellsOf e = 1) (hC : P.cellsOf t = 2)
    (hv : Value.okWide P w r b0 t v) (h : DataW.Trod enc P w base sp held t v d p) : ∃ x y : Int, v = .agg #[.int k x, .int k y] ∧ (Lit.int k x).wf = true ∧ (Lit.int k y).wf = true := by
  simp only [Value.okWide, ht] at hv
  obtain ⟨cs, rfl, hsz, _⟩ := hv
  rw [hC] at hsz
  obtain ⟨c0, c1, rfl⟩ : ∃ c0 c1, cs = #[c0, c1] := by
    obtain ⟨l⟩ := cs
    match l, hsz with
    | [c0, c1], _ => exact ⟨c0, c1, rfl⟩
  obtain ⟨fuel, hf⟩ := h
  obtain ⟨y0, y1, n, _, h0, h1⟩ := trod_array2 ht hce (show DataW.trod enc P w base sp held fuel t [c0, c1] = some (d, p) from hf)
  obtain ⟨x0, e0, _, w0⟩ := DataW.trod_int he h0
  obtain ⟨x1, e1, _, w1⟩ := DataW.trod_int he h1
  injection e0 with e0 _
  injection e1 with e1 _
  subst e0; subst e1
  exact ⟨x0, x1, rfl, w0, w1⟩
theorem open_arr2b {H : Type} {enc : TypeId × Value → H} {P : Program} {w : World} {base : Nat} {sp : Nat → Bool} {held : Bool} {r : Reach} {b0 : Nat} {t e : TypeId} {v : Value} {d : DataW H} {p : List MemPlace}
    (ht : P.underlying t = some (.array 2 e)) (he : P.underlying e = some .bool) (hce : P.cellsOf e = 1) (hC : P.cellsOf t = 2)
    (hv : Value.okWide P w r b0 t v) (h : DataW.Trod enc P w base sp held t v d p) : ∃ x y : Bool, v = .agg #[.bool x, .bool y] := by
  simp only [Value.okWide, ht] at hv
  obtain ⟨cs, rfl, hsz, _⟩ := hv
  rw [hC] at hsz
  obtain ⟨c0, c1, rfl⟩ : ∃ c0 c1, cs = #[c0, c1] := by
    obtain ⟨l⟩ := cs
    match l, hsz with
    | [c0, c1], _ => exact ⟨c0, c1, rfl⟩
  obtain ⟨fuel, hf⟩ := h
  obtain ⟨y0, y1, n, _, h0, h1⟩ := trod_array2 ht hce (show DataW.trod enc P w base sp held fuel t [c0, c1] = some (d, p) from hf)
  obtain ⟨x0, e0, _⟩ := DataW.trod_bool he h0
  obtain ⟨x1, e1, _⟩ := DataW.trod_bool he h1
  injection e0 with e0 _
  injection e1 with e1 _
  subst e0; subst e1
  exact ⟨x0, x1, rfl⟩
end Go.Proofs.YtlikhmhomkiadaaGreatDoor

namespace Go.Proofs.YtlikhmhomkiadaaGreatDoor
set_option maxRecDepth 100000
open Go Go.RowKit

theorem known0 {m : DM} {g : Int} (hs : m.size = 156) (hg : g = 1 ∨ g = 2) : knownC m.size 0 g = 0 := by
  unfold knownC
  rw [hs, if_neg (by omega), if_neg (by omega)]
section
variable {w0 w : World} {d : Nat} {F : Nat → Prop} {m : DM}
theorem DK.st (h : DK w0 w d F m) {m' : DM} {w' : World} (k : Step d F w m' w') : DK w0 w' d (grow F w w') m' := h.step k.1 k.2
theorem DK.laid (h : DK w0 w d F m) (hL : LaidF w0) : ∀ V, Mod F w V → LaidF V := fun _ hm => hL.ext (Below.mod h.bel hm h.bel.size h.low)
theorem Load_dk (h : DK w0 w d F m) (hL : LaidF w0) (r g : Int) (hk : knownC m.size r g = 0) (hfew : m.waits.length ≤ 1000000) : Calls Tryz.prog 26 #[.pointer (some ⟨d, 0, none⟩), .int .i64 r, .int .i64 g] w fun e w' => ∃ A N, e = .returned (.tuple #[.int .i64 (m.loadV r g : Nat), .slice A N N, .int .i64 (m.loadE r g)]) ∧ By w' A N N (m.loadB r g) ∧ Ext w w' :=
  Load_of h.disk (hL.ext h.bel) r g hfew hk
theorem Heal_dk (h : DK w0 w d F m) (hL : LaidF w0) (r g : Int) (hk : knownC m.size r g = 0) (hfew : m.waits.length + 1 ≤ 1000000) : Calls Tryz.prog 24 #[.pointer (some ⟨d, 0, none⟩), .int .i64 r, .int .i64 g] w fun e w' => e = .returned (.int .i64 (m.heal r g).1) ∧ DK w0 w' d (grow F w w') (m.heal r g).2 :=
  (Heal_of h.disk (hL.ext h.bel) r g hfew hk).mono fun _ _ ⟨h1, h2⟩ => ⟨h1, h.st h2⟩
theorem Store_dk (h : DK w0 w d F m) (hL : LaidF w0) (r g c : Int) (A : Option Addr) (n cp : Nat) (body : List Nat) (hb : By w A n cp body) (ho : ∀ g o, A = some ⟨g, o, none⟩ → 0 < n → ¬ F g) (hk : knownC m.size r g = 0) (hfew : m.waits.length + 2 ≤ 1000000) : Calls Tryz.prog 22 #[.pointer (some ⟨d, 0, none⟩), .int .i64 r, .int .i64 g, .int .i64 c, .slice A n cp] w fun e w' => e = .returned (.int .i64 (m.store r g c body).1) ∧ DK w0 w' d (grow F w w') (m.store r g c body).2 :=
  (Store_of h.disk (hL.ext h.bel) (h.laid hL) r g c A n cp body hb ho hfew hk).mono fun _ _ ⟨h1, h2⟩ => ⟨h1, h.st h2⟩
/-- Bytes that came in lie in none of the disk's blocks. -/
theorem DK.offB (h : DK w0 w d F m) {A : Option Addr} {n c : Nat} {l : List Nat} (hb : Bs w0 w0.heap.size A n c l) : ∀ g o, A = some ⟨g, o, none⟩ → 0 < n → ¬ F g := fun g o hA hn hf => by
  obtain ⟨g2, o2, e2, h2, _⟩ := hb.rd.2 (by rw [hb.len]; exact hn)
  rw [hA] at e2
  injection e2 with e2
  injection e2 with e3 _
  have h1 := h.low _ hf
  rw [e3] at h1
  exact absurd h2 (by show ¬ g2 < w0.heap.size; omega)
theorem DK.byIn (h : DK w0 w d F m) {A : Option Addr} {n c : Nat} {l : List Nat} (hb : Bs w0 w0.heap.size A n c l) : By w A n c l := (hb.below h.bel).more h.bel.size

end
/-- What great answers. -/
def GreatL (n : Nat) (l : List Lst) (w : World) (e : Ending) (w' : World) : Prop := ∃ b : Bool, e = .returned (.bool b) ∧ w = w' ∧ (b = false → n ≤ 20 ∧ ∀ a ∈ l, a.n ≤ 43)
/-- The body that was stored last, of k. -/
def bodyAt (l : List Lst) (k : Nat) : List Nat := if k = 0 then [] else (l.getD (k - 1) default).l
end Go.Proofs.YtlikhmhomkiadaaGreatDoor

namespace Go.Proofs.YtlikhmhomkiadaaGreatDoor
open Go Go.RowKit

def DM.storeK (m : DM) (r g c : Int) (b : List Nat) : Int × DM := if knownC m.size r g = 0 then m.store r g c b else (2, m)
def DM.healK (m : DM) (r g : Int) : Int × DM := if knownC m.size r g = 0 then m.heal r g else (2, m)
def DM.ldKE (m : DM) (r g : Int) : Int := if knownC m.size r g = 0 then m.loadE r g else 2
def DM.ldKV (m : DM) (r g : Int) : Nat := if knownC m.size r g = 0 then m.loadV r g else 0
def DM.ldKB (m : DM) (r g : Int) : List Nat := if knownC m.size r g = 0 then m.loadB r g else []
theorem known_twoK {sz : Nat} {r g : Int} (hs : sz = 156) (h : knownC sz r g ≠ 0) : knownC sz r g = 2 := (askC_no (by omega) h).2
section
variable {w : World} {d : Nat} {F : Nat → Prop} {p : Nat → Nat} {m : DM}
theorem Store_any (h : PDisk w d F m) (hL : LaidF w) (hLM : ∀ V, Mod F w V → LaidF V) (hs : m.size = 156) (r g c : Int) (A : Option Addr) (n cp : Nat) (body : List Nat) (hb : By w A n cp body) (ho : ∀ g o, A = some ⟨g, o, none⟩ → 0 < n → ¬ F g) (hfew : m.waits.length + 2 ≤ 1000000) :
    Calls Tryz.prog 22 #[.pointer (some ⟨d, 0, none⟩), .int .i64 r, .int .i64 g, .int .i64 c, .slice A n cp] w fun e w' => e = .returned (.int .i64 (m.storeK r g c body).1) ∧ Step d F w (m.storeK r g c body).2 w' := by
  unfold DM.storeK
  by_cases hk : knownC m.size r g = 0
  · rw [if_pos hk]
    exact Store_of h hL hLM r g c A n cp body hb ho hfew hk
  · rw [if_neg hk]
    refine (Store_unknown (Sized.of h) hL.a.t r g c A n cp hk).mono fun e w' ⟨h1, h2⟩ => ⟨by rw [h1, known_twoK hs hk], Step.of_ext h h2⟩
theorem rstore_anyK (h : RD w d p m) (r g c : Int) (A : Option Addr) (n cp : Nat) (body : List Nat) (hb : By w A n cp body) (ho : ∀ g o, A = some ⟨g, o, none⟩ → 0 < n → p g = 0) (hfew : m.waits.length + 2 ≤ 1000000) :
    Calls Tryz.prog 23 #[.pointer (some ⟨d, 0, none⟩), .int .i64 r, .int .i64 g, .int .i64 c, .slice A n cp] w fun e w' => e = .returned (.int .i64 (m.storeK r g c body).1) ∧ ROut d p w (m.storeK r g c body).2 w' := by
  unfold DM.storeK
  by_cases hk : knownC m.size r g = 0
  · rw [if_pos hk]
    exact rstore_of h r g c A n cp body hb ho hfew hk
  · rw [if_neg hk]
    exact (rstore_no h r g c A n cp hk).mono fun e w' ⟨h1, h2⟩ => ⟨h1, by subst h2; exact rout_refl h (Ext.refl _)⟩
theorem Heal_any (h : PDisk w d F m) (hL : LaidF w) (hs : m.size = 156) (r g : Int) (hfew : m.waits.length + 1 ≤ 1000000) :
    Calls Tryz.prog 24 #[.pointer (some ⟨d, 0, none⟩), .int .i64 r, .int .i64 g] w fun e w' => e = .returned (.int .i64 (m.healK r g).1) ∧ Step d F w (m.healK r g).2 w' := by
  unfold DM.healK
  by_cases hk : knownC m.size r g = 0
  · rw [if_pos hk]
    exact Heal_of h hL r g hfew hk
  · rw [if_neg hk]
    exact (Heal_unknown (Sized.of h) hL.a.t r g hk).mono fun e w' ⟨h1, h2⟩ => ⟨by rw [h1, known_twoK hs hk], Step.of_ext h h2⟩
theorem rheal_anyK (h : RD w d p m) (r g : Int) (hfew : m.waits.length + 1 ≤ 1000000) :
    Calls Tryz.prog 25 #[.pointer (some ⟨d, 0, none⟩), .int .i64 r, .int .i64 g] w fun e w' => e = .returned (.int .i64 (m.healK r g).1) ∧ ROut d p w (m.healK r g).2 w' := by
  unfold DM.healK
  by_cases hk : knownC m.size r g = 0
  · rw [if_pos hk]
    exact rheal_of h r g hfew hk
  · rw [if_neg hk]
    exact (rheal_no h r g hk).mono fun e w' ⟨h1, h2⟩ => ⟨h1, rout_refl h h2⟩
theorem Load_any (h : PDisk w d F m) (hL : LaidF w) (hs : m.size = 156) (r g : Int) (hfew : m.waits.length ≤ 1000000) :
    Calls Tryz.prog 26 #[.pointer (some ⟨d, 0, none⟩), .int .i64 r, .int .i64 g] w fun e w' => ∃ A N, e = .returned (.tuple #[.int .i64 (m.ldKV r g : Nat), .slice A N N, .int .i64 (m.ldKE r g)]) ∧ By w' A N N (m.ldKB r g) ∧ Ext w w' := by
  unfold DM.ldKE DM.ldKV DM.ldKB
  by_cases hk : knownC m.size r g = 0
  · rw [if_pos hk, if_pos hk, if_pos hk]
    exact Load_of h hL r g hfew hk
  · rw [if_neg hk, if_neg hk, if_neg hk]
    exact (Load_unknown (Sized.of h) hL.a.t r g hk).mono fun e w' ⟨h1, h2⟩ => ⟨none, 0, by rw [h1, known_twoK hs hk]; rfl, By.nil_ _, h2⟩
theorem rload_anyK (h : RD w d p m) (r g : Int) (hfew : m.waits.length ≤ 1000000) :
    Calls Tryz.prog 27 #[.pointer (some ⟨d, 0, none⟩), .int .i64 r, .int .i64 g] w fun e w' => ∃ A N c, e = .returned (.tuple #[.int .i64 (m.ldKV r g : Nat), .slice A N c, .int .i64 (m.ldKE r g)]) ∧ By w' A N c (m.ldKB r g) ∧ Ext w w' := by
  unfold DM.ldKE DM.ldKV DM.ldKB
  by_cases hk : knownC m.size r g = 0
  · rw [if_pos hk, if_pos hk, if_pos hk]
    exact rload_of h r g hfew hk
  · rw [if_neg hk, if_neg hk, if_neg hk]
    exact (rload_no h r g hk).mono fun e w' ⟨h1, h2⟩ => ⟨none, 0, 0, by rw [h1]; rfl, By.nil_ _, h2⟩
end
end Go.Proofs.YtlikhmhomkiadaaGreatDoor

namespace Go.Proofs.YtlikhmhomkiadaaGreatDoor
open Go Go.RowKit

/-- The block g holds o, and is none of F. -/
structure Keep (w : World) (F : Nat → Prop) (g : Nat) (o : Obj) : Prop where
  row : w.heap[g]? = some o
  off : ¬ F g
section
variable {w w' : World} {F : Nat → Prop} {g d : Nat} {o : Obj} {m : DM}
theorem Keep.lt (h : Keep w F g o) : g < w.heap.size := (Array.getElem?_eq_some_iff.1 h.row).1
theorem Keep.new (h : PDisk w d F m) (o : Obj) : Keep (w.alloc o) F w.heap.size o := ⟨heap_alloc_new w o, fun hf => Nat.lt_irrefl _ (h.lt _ hf)⟩
theorem Keep.ext (h : Keep w F g o) (k : Ext w w') : Keep w' F g o := ⟨(k.block g h.lt).trans h.row, h.off⟩
theorem Keep.step (h : Keep w F g o) (k : Mod F w w') : Keep w' (grow F w w') g o := ⟨heap_mod h.row k h.off, fun hf => hf.elim h.off fun h2 => absurd h2.1 (Nat.not_le.2 h.lt)⟩
theorem Keep.mod {G : Nat → Prop} (h : Keep w F g o) (k : Mod G w w') (hg : ¬ G g) : Keep w' F g o := ⟨heap_mod h.row k hg, h.off⟩
end
end Go.Proofs.YtlikhmhomkiadaaGreatDoor

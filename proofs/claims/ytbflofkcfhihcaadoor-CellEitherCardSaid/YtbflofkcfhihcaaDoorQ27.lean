/-
  Plain facts on a disk with cells on it: what puts leave, with power or without; what is loaded then.
  Lists of ghost's acts (a bool, a tag, a list of bytes, an act of a disk) that came in, opened: what their cells hold.
  The contract of the statements' Sector: what an act writes.
  The contract of the statements' Do: an act at the program's disk.
-/
import Derived.Test.YtbflofkcfhihcaaDoorQ03
import Derived.Test.YtbflofkcfhihcaaDoorQ06
import Derived.Test.YtbflofkcfhihcaaDoorQ07
import Derived.Test.YtbflofkcfhihcaaDoorQ11
import Derived.Test.YtbflofkcfhihcaaDoorQ12
import Derived.Test.YtbflofkcfhihcaaDoorQ24
import Derived.Laws.AppendOwnNone
import Derived.Laws.OwnMore
namespace Go.Proofs.YtbflofkcfhihcaaDoor

/-- What a sector holds, as a reader has it. -/
def DM.hold (m : DM) (s : Nat) : List Nat := if m.lost.getD s false = true then [] else m.rest.getD s []
/-- A disk of 156 sectors on which nothing waits, but for down and dead. -/
structure CB (m : DM) (w : List (Nat × List Nat)) : Prop where
  ok : m.Ok
  size : m.size = 156
  waits : m.waits = w
  down : m.down = false
structure CD (m : DM) (pw : Int) : Prop where
  b : CB m []
  dead : m.dead = false
  power : m.power = pw
theorem CD.up {m : DM} {pw : Int} (h : CD m pw) : m.up = true := by unfold DM.up; rw [h.b.down, h.dead]; rfl
theorem CD.has {m : DM} {pw : Int} (h : CD m pw) {s : Nat} (hs : s < 156) : m.has (s : Int) = true := DM.has_iff.2 ⟨by omega, by rw [h.b.size]; omega⟩
theorem CD.read {m : DM} {pw : Int} (h : CD m pw) {s : Nat} (hs : s < 156) : (m.read (s : Int)).1 = m.hold s := by
  unfold DM.read DM.hold
  rw [if_neg (by rw [h.up]; simp), if_neg (by rw [h.has hs]; simp), h.b.waits, Int.toNat_natCast]
  simp only [lastW]
  split <;> rfl
theorem CD.new : CD (DM.new 156) (-1) := ⟨⟨DM.new_ok 156, by simp [DM.new, DM.size], rfl, rfl⟩, rfl, rfl⟩
theorem getD_rep {α : Type} {n s : Nat} {x d : α} (h : s < n) : (List.replicate n x).getD s d = x := by rw [List.getD_eq_getElem?_getD, List.getElem?_replicate, if_pos h]; rfl
theorem new_hold {s : Nat} (hs : s < 156) : (DM.new 156).hold s = z64 := by
  unfold DM.hold DM.new
  rw [if_neg (by rw [getD_rep hs]; simp), getD_rep hs]
theorem hold_comes {m : DM} (h : m.Ok) {l : List (Nat × List Nat)} (hl : ∀ x ∈ l, x.1 < m.size) (t : Nat) : (m.comes l).hold t = (lastW l t).getD (m.hold t) := by
  obtain ⟨h1, _, h3⟩ := comes_get l m h hl t
  unfold DM.hold
  rw [h1, h3]
  cases lastW l t <;> simp
theorem sect_write {L : List Nat} (h : Sect L) : L.length = 64 := h.1
section
variable {m : DM} {pw : Int} {s : Nat} {L : List Nat}
theorem CD.write0 (h : CD m 0) (hs : s < 156) (hL : Sect L) : m.write (s : Int) L = (5, { m with dead := true }) := by
  unfold DM.write
  rw [if_neg (by rw [h.up]; simp), if_neg (by rw [h.has hs, hL.1]; simp), if_pos h.power]
theorem CD.write1 (h : CD m pw) (hp : pw ≠ 0) (hs : s < 156) (hL : Sect L) : m.write (s : Int) L = (0, { m with power := lessP pw, waits := [(s, L)] }) := by
  unfold DM.write
  rw [if_neg (by rw [h.up]; simp), if_neg (by rw [h.has hs, hL.1]; simp), if_neg (by rw [h.power]; exact hp), h.power, h.b.waits, Int.toNat_natCast]
  rfl
theorem CD.put0 (h : CD m 0) (hs : s < 156) (hL : Sect L) : ∃ m', m.putC (s : Int) L = (5, m') ∧ CB m' [] ∧ ∀ t, m'.hold t = m.hold t := by
  refine ⟨{ m with dead := true }, ?_, ⟨⟨h.b.ok.meant, h.b.ok.lost, h.b.ok.rests, h.b.ok.means, h.b.ok.waits, h.b.ok.power⟩, h.b.size, h.b.waits, h.b.down⟩, fun t => rfl⟩
  unfold DM.putC
  rw [h.write0 hs hL, if_pos (by simp)]
theorem CD.waiting (h : CD m pw) (hs : s < 156) (hL : Sect L) (q : Int) (hq : -1 ≤ q) : ({ m with power := q, waits := [(s, L)] } : DM).Ok :=
  ⟨h.b.ok.meant, h.b.ok.lost, h.b.ok.rests, h.b.ok.means, fun x hx => by
    simp only [List.mem_singleton] at hx
    subst hx
    exact ⟨by show s < m.size; rw [h.b.size]; exact hs, hL⟩, hq⟩
theorem CD.put1 (h : CD m 1) (hs : s < 156) (hL : Sect L) : ∃ m', m.putC (s : Int) L = (5, m') ∧ CB m' [(s, L)] ∧ ∀ t, m'.hold t = m.hold t := by
  have hok := h.waiting hs hL 0 (by omega)
  refine ⟨{ m with power := 0, waits := [(s, L)], dead := true }, ?_, ⟨⟨hok.meant, hok.lost, hok.rests, hok.means, hok.waits, by show (-1 : Int) ≤ 0; omega⟩, h.b.size, rfl, h.b.down⟩, fun t => rfl⟩
  unfold DM.putC
  rw [h.write1 (by omega) hs hL]
  rw [if_neg (by simp)]
  unfold DM.flush
  have hu : ({ m with power := lessP 1, waits := [(s, L)] } : DM).up = true := by unfold DM.up; show (!(m.down || m.dead)) = true; rw [h.b.down, h.dead]; rfl
  rw [if_neg (by rw [hu]; simp), if_pos (by show lessP 1 = 0; rfl)]
  rfl
theorem CD.put2 (h : CD m pw) (hp : pw = -1 ∨ 2 ≤ pw) (hs : s < 156) (hL : Sect L) : ∃ m', m.putC (s : Int) L = (0, m') ∧ CD m' (lessP (lessP pw)) ∧ ∀ t, m'.hold t = if t = s then L else m.hold t := by
  have hp1 : lessP pw = -1 ∨ 1 ≤ lessP pw := by unfold lessP; split <;> omega
  have hu : ({ m with power := lessP pw, waits := [(s, L)] } : DM).up = true := by unfold DM.up; show (!(m.down || m.dead)) = true; rw [h.b.down, h.dead]; rfl
  have hok := h.waiting hs hL (lessP pw) (by omega)
  have hok2 : ({ m with power := lessP (lessP pw), waits := [(s, L)] } : DM).Ok := h.waiting hs hL _ (by unfold lessP at hp1 ⊢; omega)
  obtain ⟨w1, w2, w3, w4⟩ := DM.comes_waits [(s, L)] ({ m with power := lessP (lessP pw), waits := [(s, L)] } : DM)
  refine ⟨{ ({ m with power := lessP (lessP pw), waits := [(s, L)] } : DM).comes [(s, L)] with waits := [] }, ?_, ⟨⟨?_, ?_, rfl, ?_⟩, ?_, ?_⟩, fun t => ?_⟩
  · unfold DM.putC
    rw [h.write1 (by omega) hs hL, if_neg (by simp)]
    unfold DM.flush
    rw [if_neg (by rw [hu]; simp), if_neg (by show ¬ lessP pw = 0; omega)]
  · exact DM.clear_ok (DM.comes_ok _ hok2 fun x hx => (hok2.waits x hx).2)
  · show (DM.comes _ _).size = 156
    rw [DM.comes_size]
    exact h.b.size
  · exact w2.trans h.b.down
  · exact w3.trans h.dead
  · exact w4
  · show (DM.comes _ _).hold t = _
    rw [hold_comes hok2 (fun x hx => (hok2.waits x hx).1)]
    show ((none : Option (List Nat)).or (if s = t then some L else none)).getD _ = _
    by_cases hst : s = t
    · subst hst; simp
    · rw [if_neg hst, if_neg (fun e => hst e.symm)]; rfl
/-- A crash and a start. -/
theorem CB.again {w : List (Nat × List Nat)} (h : CB m w) (k : List Bool) : (m.crash k).1 = 0 ∧ (m.crash k).2.start.1 = 0 ∧ CD (m.crash k).2.start.2 (-1) ∧ ∀ t, (m.crash k).2.start.2.hold t = (lastW (kept w k) t).getD (m.hold t) := by
  have hc : m.crash k = (0, { m.comes (kept m.waits k) with waits := [], down := true }) := by unfold DM.crash; rw [if_neg (by rw [h.down]; simp)]
  have hs : ({ m.comes (kept m.waits k) with waits := [], down := true } : DM).start = (0, { ({ m.comes (kept m.waits k) with waits := [], down := true } : DM) with down := false, dead := false, power := -1 }) := by unfold DM.start; rw [if_neg (by simp)]
  have hok := DM.start_ok (DM.crash_ok h.ok k)
  have hl : ∀ x ∈ kept m.waits k, x.1 < m.size := fun x hx => (h.ok.waits x (kept_mem hx)).1
  rw [hc] at hok ⊢
  rw [hs] at hok ⊢
  refine ⟨rfl, rfl, ⟨⟨hok, ?_, rfl, rfl⟩, rfl, rfl⟩, fun t => ?_⟩
  · show (m.comes _).size = 156
    rw [DM.comes_size]
    exact h.size
  · show (m.comes (kept m.waits k)).hold t = _
    rw [hold_comes h.ok hl, h.waits]
end
theorem lastW_one (s : Nat) (L : List Nat) (k : List Bool) (t : Nat) (o : List Nat) : (lastW (kept [(s, L)] k) t).getD o = o ∨ (t = s ∧ (lastW (kept [(s, L)] k) t).getD o = L) := by
  cases k with
  | nil => exact .inl rfl
  | cons b k =>
    cases b with
    | false => left; show (lastW (kept [] k) t).getD o = o; simp [kept, lastW]
    | true =>
      by_cases h : s = t
      · right; exact ⟨h.symm, by show ((lastW (kept [] k) t).or (if s = t then some L else none)).getD o = L; rw [if_pos h]; simp [kept, lastW]⟩
      · left; show ((lastW (kept [] k) t).or (if s = t then some L else none)).getD o = o; rw [if_neg h]; simp [kept, lastW]
theorem lastW_oneall (s : Nat) (L : List Nat) (k : List Bool) : (∀ t o, (lastW (kept [(s, L)] k) t).getD o = o) ∨ (∀ t o, (lastW (kept [(s, L)] k) t).getD o = if t = s then L else o) := by
  cases k with
  | nil => exact .inl fun t o => rfl
  | cons b k =>
    cases b with
    | false => left; intro t o; show (lastW (kept [] k) t).getD o = o; simp [kept, lastW]
    | true =>
      right
      intro t o
      show ((lastW (kept [] k) t).or (if s = t then some L else none)).getD o = _
      by_cases h : s = t
      · rw [if_pos h, if_pos h.symm]; simp [kept, lastW]
      · rw [if_neg h, if_neg (fun e => h e.symm)]; simp [kept, lastW]

/-- Frames are put to two sectors. -/
def DM.two (m : DM) (a b : Nat) (La Lb : List Nat) : Int × DM := if (m.putC (a : Int) La).1 ≠ 0 then m.putC (a : Int) La else (m.putC (a : Int) La).2.putC (b : Int) Lb
/-- What two sectors hold behind it: nothing of it, the first one, or both. -/
inductive Part (m m2 : DM) (a b : Nat) (La Lb : List Nat) : Prop
  | none (h : ∀ t, m2.hold t = m.hold t)
  | one (h : ∀ t, m2.hold t = if t = a then La else m.hold t)
  | both (h : ∀ t, m2.hold t = if t = b then Lb else if t = a then La else m.hold t)
section
variable {m : DM} {pw : Int} {a b : Nat} {La Lb : List Nat}
theorem CD.two_ok (h : CD m pw) (hp : pw = -1 ∨ 4 ≤ pw) (ha : a < 156) (hb : b < 156) (hLa : Sect La) (hLb : Sect Lb) : ∃ m' q, m.two a b La Lb = (0, m') ∧ CD m' q ∧ (pw = -1 → q = -1) ∧ ∀ t, m'.hold t = if t = b then Lb else if t = a then La else m.hold t := by
  obtain ⟨m1, e1, h1, k1⟩ := h.put2 (s := a) (L := La) (by omega) ha hLa
  have hq : lessP (lessP pw) = -1 ∨ 2 ≤ lessP (lessP pw) := by unfold lessP; (repeat' split) <;> omega
  obtain ⟨m2, e2, h2, k2⟩ := h1.put2 (s := b) (L := Lb) hq hb hLb
  refine ⟨m2, _, ?_, h2, fun e => by subst e; rfl, fun t => ?_⟩
  · unfold DM.two
    rw [e1, if_neg (by simp)]
    exact e2
  · rw [k2, k1]
/-- With power for k writes and flushes, and any crash: what is there then. -/
theorem CD.two_power {k : Nat} (h : CD m (k : Int)) (ha : a < 156) (hb : b < 156) (hLa : Sect La) (hLb : Sect Lb) (keep : List Bool) : ((m.two a b La Lb).1 = if k < 4 then 5 else 0) ∧ ((m.two a b La Lb).2.crash keep).1 = 0 ∧ ((m.two a b La Lb).2.crash keep).2.start.1 = 0 ∧
    CD ((m.two a b La Lb).2.crash keep).2.start.2 (-1) ∧ Part m ((m.two a b La Lb).2.crash keep).2.start.2 a b La Lb ∧ (4 ≤ k → ∀ t, ((m.two a b La Lb).2.crash keep).2.start.2.hold t = if t = b then Lb else if t = a then La else m.hold t) := by
  have hk : k = 0 ∨ k = 1 ∨ k = 2 ∨ k = 3 ∨ 4 ≤ k := by omega
  rcases hk with rfl | rfl | rfl | rfl | hk
  · obtain ⟨m1, e1, h1, k1⟩ := CD.put0 (s := a) (L := La) h ha hLa
    have e : m.two a b La Lb = (5, m1) := by unfold DM.two; rw [e1, if_pos (by simp)]
    rw [e]
    obtain ⟨c1, c2, c3, c4⟩ := h1.again keep
    refine ⟨rfl, c1, c2, c3, .none fun t => ?_, fun h => absurd h (by omega)⟩
    rw [c4]
    exact k1 t
  · obtain ⟨m1, e1, h1, k1⟩ := CD.put1 (s := a) (L := La) h ha hLa
    have e : m.two a b La Lb = (5, m1) := by unfold DM.two; rw [e1, if_pos (by simp)]
    rw [e]
    obtain ⟨c1, c2, c3, c4⟩ := h1.again keep
    refine ⟨rfl, c1, c2, c3, ?_, fun h => absurd h (by omega)⟩
    rcases lastW_oneall a La keep with hw | hw
    · exact .none fun t => by rw [c4, hw]; exact k1 t
    · exact .one fun t => by rw [c4, hw, k1]
  · obtain ⟨m1, e1, h1, k1⟩ := h.put2 (s := a) (L := La) (by omega) ha hLa
    have h1 : CD m1 0 := h1
    obtain ⟨m2, e2, h2, k2⟩ := CD.put0 (s := b) (L := Lb) h1 hb hLb
    have e : m.two a b La Lb = (5, m2) := by unfold DM.two; rw [e1, if_neg (by simp)]; exact e2
    rw [e]
    obtain ⟨c1, c2, c3, c4⟩ := h2.again keep
    refine ⟨rfl, c1, c2, c3, .one fun t => ?_, fun h => absurd h (by omega)⟩
    rw [c4, ← k1, ← k2]
    rfl
  · obtain ⟨m1, e1, h1, k1⟩ := h.put2 (s := a) (L := La) (by omega) ha hLa
    have h1 : CD m1 1 := h1
    obtain ⟨m2, e2, h2, k2⟩ := CD.put1 (s := b) (L := Lb) h1 hb hLb
    have e : m.two a b La Lb = (5, m2) := by unfold DM.two; rw [e1, if_neg (by simp)]; exact e2
    rw [e]
    obtain ⟨c1, c2, c3, c4⟩ := h2.again keep
    refine ⟨rfl, c1, c2, c3, ?_, fun h => absurd h (by omega)⟩
    rcases lastW_oneall b Lb keep with hw | hw
    · exact .one fun t => by rw [c4, hw, k2, k1]
    · exact .both fun t => by rw [c4, hw, k2, k1]
  · obtain ⟨m1, q, e, h1, _, k1⟩ := h.two_ok (by omega) ha hb hLa hLb
    rw [e, if_neg (by omega)]
    obtain ⟨c1, c2, c3, c4⟩ := h1.b.again keep
    refine ⟨rfl, c1, c2, c3, .both fun t => ?_, fun _ t => ?_⟩ <;> (rw [c4]; exact k1 t)
end
end Go.Proofs.YtbflofkcfhihcaaDoor

namespace Go.Proofs.YtbflofkcfhihcaaDoor
set_option maxRecDepth 100000
open Go Go.RowKit Go.ChangeShapes Go.WideShapes Go.Deep

/-- An act: is a frame written; its tag; its body; else an act of a disk. -/
structure Act6 where
  sl : Bool := false
  ta : Int := 0
  tb : Int := 0
  tc : Int := 0
  td : Int := 0
  te : Int := 0
  bA : Option Addr := none
  bn : Nat := 0
  bc : Nat := 0
  bl : List Nat := []
  act : Act5 := {}
instance : Inhabited Act6 := ⟨{}⟩
def Act6.cells (x : Act6) : List Value := [.bool x.sl, .int .i64 x.ta, .int .i64 x.tb, .int .i64 x.tc, .int .i64 x.td, .int .i64 x.te, .slice x.bA x.bn x.bc, .int .u8 (x.act.kind : Int), .int .i64 x.act.sec, .int .i64 x.act.num, .slice x.act.bA x.act.bn x.act.bc, .slice x.act.kA x.act.kn x.act.kc]
structure Act6.Ok (x : Act6) (w : World) (B : Nat) : Prop where
  body : Bs w B x.bA x.bn x.bc x.bl
  act : x.act.Ok w B
theorem Act6.Ok.below {a : Act6} {w w' : World} {B : Nat} (h : a.Ok w B) (hb : Below B w w') : a.Ok w' B := ⟨h.body.below hb, h.act.below hb⟩
theorem Act6.Ok.more {a : Act6} {w : World} {B B' : Nat} (h : a.Ok w B) (hB : B ≤ B') : a.Ok w B' := ⟨h.body.more hB, h.act.more hB⟩

structure Acts6 (w : World) (B : Nat) (A : Option Addr) (n c : Nat) (l : List Act6) : Prop where
  len : l.length = n
  cap : n ≤ c
  most : c ≤ 9223372036854775807
  each : ∀ a ∈ l, a.Ok w B
  rd : 0 < n → ∃ g o, A = some ⟨g, o, none⟩ ∧ g < B ∧ ∀ j a, l[j]? = some a → ∀ k v, a.cells[k]? = some v → w.cell? ⟨g, o + (j * 12 + k), none⟩ = some v
  nil_ : A = none → c = 0
theorem Acts6.below {w w' : World} {B : Nat} {A : Option Addr} {n c : Nat} {l : List Act6} (h : Acts6 w B A n c l) (hb : Below B w w') : Acts6 w' B A n c l :=
  ⟨h.len, h.cap, h.most, fun a ha => (h.each a ha).below hb, fun hn => by
    obtain ⟨g, o, e, hg, hc⟩ := h.rd hn
    exact ⟨g, o, e, hg, fun j a ha k v hv => (hb.cell (p := ⟨g, o + (j * 12 + k), none⟩) hg).trans (hc j a ha k v hv)⟩, h.nil_⟩
theorem Acts6.more {w : World} {B B' : Nat} {A : Option Addr} {n c : Nat} {l : List Act6} (h : Acts6 w B A n c l) (hB : B ≤ B') : Acts6 w B' A n c l :=
  ⟨h.len, h.cap, h.most, fun a ha => (h.each a ha).more hB, fun hn => by
    obtain ⟨g, o, e, hg, hc⟩ := h.rd hn
    exact ⟨g, o, e, by omega, hc⟩, h.nil_⟩
/-- The cells of the act at a place of the list. -/
def Cells12 (w : World) (g o : Nat) (x : Act6) : Prop :=
  w.cell? ⟨g, o, none⟩ = some (.bool x.sl) ∧ w.cell? ⟨g, o + 1, none⟩ = some (.int .i64 x.ta) ∧ w.cell? ⟨g, o + 2, none⟩ = some (.int .i64 x.tb) ∧ w.cell? ⟨g, o + 3, none⟩ = some (.int .i64 x.tc) ∧ w.cell? ⟨g, o + 4, none⟩ = some (.int .i64 x.td) ∧ w.cell? ⟨g, o + 5, none⟩ = some (.int .i64 x.te) ∧
  w.cell? ⟨g, o + 6, none⟩ = some (.slice x.bA x.bn x.bc) ∧ w.cell? ⟨g, o + 7, none⟩ = some (.int .u8 (x.act.kind : Int)) ∧ w.cell? ⟨g, o + 8, none⟩ = some (.int .i64 x.act.sec) ∧ w.cell? ⟨g, o + 9, none⟩ = some (.int .i64 x.act.num) ∧
  w.cell? ⟨g, o + 10, none⟩ = some (.slice x.act.bA x.act.bn x.act.bc) ∧ w.cell? ⟨g, o + 11, none⟩ = some (.slice x.act.kA x.act.kn x.act.kc)
theorem Cells12.below {w w' : World} {B g o : Nat} {x : Act6} (h : Cells12 w g o x) (hb : Below B w w') (hg : g < B) : Cells12 w' g o x := by
  obtain ⟨h0, h1, h2, h3, h4, h5, h6, h7, h8, h9, h10, h11⟩ := h
  exact ⟨(hb.cell (p := ⟨g, o, none⟩) hg).trans h0, (hb.cell (p := ⟨g, o + 1, none⟩) hg).trans h1, (hb.cell (p := ⟨g, o + 2, none⟩) hg).trans h2, (hb.cell (p := ⟨g, o + 3, none⟩) hg).trans h3, (hb.cell (p := ⟨g, o + 4, none⟩) hg).trans h4, (hb.cell (p := ⟨g, o + 5, none⟩) hg).trans h5,
    (hb.cell (p := ⟨g, o + 6, none⟩) hg).trans h6, (hb.cell (p := ⟨g, o + 7, none⟩) hg).trans h7, (hb.cell (p := ⟨g, o + 8, none⟩) hg).trans h8, (hb.cell (p := ⟨g, o + 9, none⟩) hg).trans h9, (hb.cell (p := ⟨g, o + 10, none⟩) hg).trans h10, (hb.cell (p := ⟨g, o + 11, none⟩) hg).trans h11⟩
theorem Acts6.at_ {w : World} {B : Nat} {A : Option Addr} {n c : Nat} {l : List Act6} (h : Acts6 w B A n c l) {j : Nat} (hj : j < n) : ∃ g o a, A = some ⟨g, o, none⟩ ∧ g < B ∧ l[j]? = some a ∧ a.Ok w B ∧ Cells12 w g (o + j * 12) a := by
  obtain ⟨g, o, e, hg, hc⟩ := h.rd (by omega)
  have hj' : j < l.length := by rw [h.len]; exact hj
  have ha : l[j]? = some l[j] := List.getElem?_eq_getElem hj'
  have cell := fun (k : Nat) (v : Value) (hv : (l[j]).cells[k]? = some v) => hc j _ ha k v hv
  exact ⟨g, o, l[j], e, hg, ha, h.each _ (List.getElem_mem hj'), cell 0 _ rfl, cell 1 _ rfl, cell 2 _ rfl, cell 3 _ rfl, cell 4 _ rfl, cell 5 _ rfl, cell 6 _ rfl, cell 7 _ rfl, cell 8 _ rfl, cell 9 _ rfl, cell 10 _ rfl, cell 11 _ rfl⟩

section
variable {H : Type} {enc : TypeId × Value → H} {P : Program} {w : World} {base : Nat} {spare : Nat → Bool} {held : Bool}

structure Act6Ty (P : Program) (e tq tt ta t8 ti tb tk e8 eb : TypeId) : Prop where
  fs : ∃ f0 f1 f2 f3 : Field, P.underlying e = some (.struct #[f0, f1, f2, f3]) ∧ (f0.type = tq ∧ f0.offset = 0) ∧ (f1.type = tt ∧ f1.offset = 1) ∧ (f2.type = tb ∧ f2.offset = 6) ∧ (f3.type = ta ∧ f3.offset = 7)
  ts : ∃ f0 f1 f2 f3 f4 : Field, P.underlying tt = some (.struct #[f0, f1, f2, f3, f4]) ∧ (f0.type = ti ∧ f0.offset = 0) ∧ (f1.type = ti ∧ f1.offset = 1) ∧ (f2.type = ti ∧ f2.offset = 2) ∧ (f3.type = ti ∧ f3.offset = 3) ∧ (f4.type = ti ∧ f4.offset = 4)
  cells : P.cellsOf e = 12
  tcells : P.cellsOf tt = 5
  qcells : P.cellsOf tq = 1
  bool : P.underlying tq = some .bool
  act : ActTy P ta t8 ti tb tk e8 eb

theorem trod_tag {tt ti : TypeId} (hs : ∃ f0 f1 f2 f3 f4 : Field, P.underlying tt = some (.struct #[f0, f1, f2, f3, f4]) ∧ (f0.type = ti ∧ f0.offset = 0) ∧ (f1.type = ti ∧ f1.offset = 1) ∧ (f2.type = ti ∧ f2.offset = 2) ∧ (f3.type = ti ∧ f3.offset = 3) ∧ (f4.type = ti ∧ f4.offset = 4))
    (hcl5 : P.cellsOf tt = 5) (hc1 : P.cellsOf ti = 1) (hi : P.underlying ti = some (.int .i64)) {fuel : Nat} {cs : List Value} {x : DataW H × List MemPlace} (h : DataW.trod enc P w base spare held fuel tt cs = some x) : ∃ a b c d e : Int, cs = [.int .i64 a, .int .i64 b, .int .i64 c, .int .i64 d, .int .i64 e] := by
  obtain ⟨f0, f1, f2, f3, f4, hs, ⟨y0, o0⟩, ⟨y1, o1⟩, ⟨y2, o2⟩, ⟨y3, o3⟩, y4, o4⟩ := hs
  obtain ⟨xs, n, _, _, hcl, hxl, hg⟩ := DataW.trod_struct hs h
  rw [hcl5] at hcl
  match cs, hcl, xs, hxl with
  | [c0, c1, c2, c3, c4], _, [x0, x1, x2, x3, x4], _ =>
    have g0 := hg 0 f0 rfl
    have g1 := hg 1 f1 rfl
    have g2 := hg 2 f2 rfl
    have g3 := hg 3 f3 rfl
    have g4 := hg 4 f4 rfl
    rw [y0, o0, hc1] at g0
    rw [y1, o1, hc1] at g1
    rw [y2, o2, hc1] at g2
    rw [y3, o3, hc1] at g3
    rw [y4, o4, hc1] at g4
    obtain ⟨a, e0, _, _⟩ := DataW.trod_int hi (show DataW.trod enc P w base spare held n ti [c0] = some x0 from g0)
    obtain ⟨b, e1, _, _⟩ := DataW.trod_int hi (show DataW.trod enc P w base spare held n ti [c1] = some x1 from g1)
    obtain ⟨c, e2, _, _⟩ := DataW.trod_int hi (show DataW.trod enc P w base spare held n ti [c2] = some x2 from g2)
    obtain ⟨d, e3, _, _⟩ := DataW.trod_int hi (show DataW.trod enc P w base spare held n ti [c3] = some x3 from g3)
    obtain ⟨e, e4, _, _⟩ := DataW.trod_int hi (show DataW.trod enc P w base spare held n ti [c4] = some x4 from g4)
    injection e0 with e0 _
    injection e1 with e1 _
    injection e2 with e2 _
    injection e3 with e3 _
    injection e4 with e4 _
    exact ⟨a, b, c, d, e, by rw [e0, e1, e2, e3, e4]⟩

theorem trod_act6 {e tq tt ta t8 ti tb tk e8 eb : TypeId} (T : Act6Ty P e tq tt ta t8 ti tb tk e8 eb) (hsp : ∀ g, spare g = true) {fuel : Nat} {cs : List Value} {x : DataW H × List MemPlace} (h : DataW.trod enc P w base spare held fuel e cs = some x) : ∃ a : Act6, cs = a.cells ∧ a.Ok w w.heap.size := by
  obtain ⟨f0, f1, f2, f3, hs, ⟨y0, o0⟩, ⟨y1, o1⟩, ⟨y2, o2⟩, y3, o3⟩ := T.fs
  obtain ⟨xs, n, _, _, hcl, hxl, hg⟩ := DataW.trod_struct hs h
  rw [T.cells] at hcl
  match cs, hcl, xs, hxl with
  | [c0, c1, c2, c3, c4, c5, c6, c7, c8, c9, c10, c11], _, [x0, x1, x2, x3], _ =>
    have g0 := hg 0 f0 rfl
    have g1 := hg 1 f1 rfl
    have g2 := hg 2 f2 rfl
    have g3 := hg 3 f3 rfl
    rw [y0, o0, T.qcells] at g0
    rw [y1, o1, T.tcells] at g1
    rw [y2, o2, T.act.one.2.2.1] at g2
    rw [y3, o3, T.act.cells] at g3
    obtain ⟨q, e0, _⟩ := DataW.trod_bool T.bool (show DataW.trod enc P w base spare held n tq [c0] = some x0 from g0)
    obtain ⟨a, b, c, d, e, e1⟩ := trod_tag T.ts T.tcells T.act.one.2.1 T.act.i64 (show DataW.trod enc P w base spare held n tt [c1, c2, c3, c4, c5] = some x1 from g1)
    obtain ⟨bA, bn, bc, bl, e2, hb⟩ := trod_bytes T.act.bytes.1 T.act.bytes.2.1 T.act.bytes.2.2 hsp (show DataW.trod enc P w base spare held n tb [c6] = some x2 from g2)
    obtain ⟨y, e3, hy⟩ := trod_act T.act hsp (show DataW.trod enc P w base spare held n ta [c7, c8, c9, c10, c11] = some x3 from g3)
    injection e0 with e0 _
    injection e1 with e1 e1'
    injection e1' with e12 e1'
    injection e1' with e13 e1'
    injection e1' with e14 e1'
    injection e1' with e15 _
    injection e2 with e2 _
    unfold Act5.cells at e3
    injection e3 with e31 e3
    injection e3 with e32 e3
    injection e3 with e33 e3
    injection e3 with e34 e3
    injection e3 with e35 _
    refine ⟨{ sl := q, ta := a, tb := b, tc := c, td := d, te := e, bA := bA, bn := bn, bc := bc, bl := bl, act := y }, ?_, ⟨hb, hy⟩⟩
    rw [e0, e1, e12, e13, e14, e15, e2, e31, e32, e33, e34, e35]
    rfl

theorem trod_acts6 {t e tq tt ta t8 ti tb tk e8 eb : TypeId} (ht : P.underlying t = some (.slice e)) (T : Act6Ty P e tq tt ta t8 ti tb tk e8 eb) (hsp : ∀ g, spare g = true) {fuel : Nat} {cs : List Value} {x : DataW H × List MemPlace} (h : DataW.trod enc P w base spare held fuel t cs = some x) :
    ∃ (A : Option Addr) (n c : Nat) (l : List Act6), cs = [.slice A n c] ∧ Acts6 w w.heap.size A n c l := by
  rcases open_slice ht h with ⟨rfl, _⟩ | ⟨a, len, cap, m, n, D, Pl, rfl, _, hl, hm, hmm, _, hi⟩
  · exact ⟨none, 0, 0, [], rfl, rfl, Nat.le_refl _, by omega, fun a ha => (by cases ha), fun h => absurd h (by omega), fun _ => rfl⟩
  · have hle : len ≤ m := by rw [hmm]; split <;> omega
    have each : ∀ i, i < len → ∃ b : Act6, (∀ k v, b.cells[k]? = some v → w.cell? ((a.add (i * 12)).add k) = some v) ∧ b.Ok w w.heap.size := fun i hil => by
      obtain ⟨cs', h1, h2⟩ := hi i (by omega)
      rw [T.cells] at h1
      obtain ⟨_, _, hcell⟩ := World.cells?_some h1
      obtain ⟨b, rfl, hb⟩ := trod_act6 T hsp h2
      refine ⟨b, fun k v hv => ?_, hb⟩
      have hk5 : k < 12 := (List.getElem?_eq_some_iff.1 hv).1
      rw [hcell k hk5, hv]
    obtain ⟨f, hf⟩ := choose_lt each
    refine ⟨some a, len, cap, (List.range len).map f, rfl, by simp, hl, by unfold maxLen at hm; exact hm, fun b hb => ?_, fun hn => ?_, fun h => by cases h⟩
    · obtain ⟨i, hil, rfl⟩ := List.mem_map.1 hb
      exact (hf i (List.mem_range.1 hil)).2
    · obtain ⟨g, o, spot⟩ := a
      have hc := (hf 0 hn).1 0 _ rfl
      have hspot : spot = none := by simpa [Addr.add] using World.cell?_spot hc
      subst hspot
      refine ⟨g, o, rfl, ?_, fun j b hb k v hv => ?_⟩
      · have := World.block_lt_of_cell? w _ hc
        simpa [Addr.add] using this
      · rw [List.getElem?_map] at hb
        obtain ⟨i, hi2, rfl⟩ := Option.map_eq_some_iff.1 hb
        obtain ⟨hjl, hji⟩ := List.getElem?_eq_some_iff.1 hi2
        simp at hjl hji
        subst hji
        have := (hf j hjl).1 k v hv
        rw [Addr.add_lit, Addr.add_lit, Nat.add_assoc] at this
        exact this

theorem open_acts6 {t e tq tt ta t8 ti tb tk e8 eb : TypeId} (ht : P.underlying t = some (.slice e)) (T : Act6Ty P e tq tt ta t8 ti tb tk e8 eb) {r : Reach} {b0 : Nat} {v : Value} {d : DataW H} {p : List MemPlace}
    (hv : Value.okWide P w r b0 t v) (h : DataW.Trod enc P w base (fun _ => true) held t v d p) : ∃ (A : Option Addr) (n c : Nat) (l : List Act6), v = .slice A n c ∧ Acts6 w w.heap.size A n c l := by
  obtain ⟨A, n, c, rfl⟩ := okWide_slice ht hv
  obtain ⟨fuel, hf⟩ := h
  obtain ⟨A', n', c', l, hcs, hl⟩ := trod_acts6 ht T (fun _ => rfl) hf
  simp [Value.cells] at hcs
  obtain ⟨rfl, rfl, rfl⟩ := hcs
  exact ⟨_, _, _, l, rfl, hl⟩
end
end Go.Proofs.YtbflofkcfhihcaaDoor

namespace Go.Proofs.YtbflofkcfhihcaaDoor
set_option maxRecDepth 100000
open Go Go.RowKit

def actV (a : Act5) : Value := .agg #[.int .u8 (a.kind : Int), .int .i64 a.sec, .int .i64 a.num, .slice a.bA a.bn a.bc, .slice a.kA a.kn a.kc]
theorem vb_rep (k x : Nat) : vb (List.replicate k x) = List.replicate k (.int .u8 (x : Int)) := by simp [vb]
theorem own_base5 {w : World} {b b' n : Nat} {e : TypeId} {s : Nat} {v : Value} {xs : List Value} (h : w.ownsRow b e s v n xs) (hb : b' ≤ b) : w.ownsRow b' e s v n xs := by
  refine ⟨h.1, ?_⟩
  rcases h.2 with h0 | ⟨g, cap, cur, hv, hbg, h1⟩
  · exact .inl h0
  · exact .inr ⟨g, cap, cur, hv, Nat.le_trans hb hbg, h1⟩
end Go.Proofs.YtbflofkcfhihcaaDoor

namespace Go.Proofs.YtbflofkcfhihcaaDoor
set_option maxRecDepth 100000
open Go Go.RowKit

theorem PDisk.wide {w : World} {d : Nat} {F G : Nat → Prop} {m : DM} (h : PDisk w d F m) (hF : ∀ k, F k → G k) (hG : ∀ k, G k → k < w.heap.size) : PDisk w d G m := by
  obtain ⟨g, pv, h1, h2, _⟩ := h
  exact ⟨g, pv, h1, fun k hk => hF k (h2 k hk), hG⟩
theorem Off.mono {F G : Nat → Prop} {A : Option Addr} (h : Off G A) (hF : ∀ k, F k → G k) : Off F A := fun p hp hf => h p hp (hF _ hf)
/-- Behind steps that wrote none of its blocks, and one that was the disk's: the whole call's. -/
theorem outc_of {w w1 w2 w3 : World} {d : Nat} {F : Nat → Prop} {m' : DM} (hF : ∀ k, F k → k < w.heap.size) (h1 : Ext w w1) (h2 : PDisk w2 d (grow F w1 w2) m') (h3 : Mod F w1 w2) (h4 : Mod (fun k => w.heap.size ≤ k ∧ k < w1.heap.size) w2 w3) : PDisk w3 d (grow F w w3) m' ∧ Mod F w w3 := by
  refine ⟨(h2.mod h4 fun i hi hl => ?_).wide (fun k hk => ?_) (fun k hk => ?_), ((Mod.of_ext h1).then h3).trans h4 fun i hi => .inr hi.1⟩
  · rcases hi with hi | hi
    · have := hF i hi; omega
    · omega
  · rcases hk with hk | hk
    · exact .inl hk
    · exact .inr ⟨Nat.le_trans h1.size hk.1, Nat.lt_of_lt_of_le hk.2 h4.size⟩
  · rcases hk with hk | hk
    · exact Nat.lt_of_lt_of_le (hF k hk) (Nat.le_trans h1.size (Nat.le_trans h3.size h4.size))
    · exact hk.2
theorem Act5.Ok.ext {a : Act5} {w w' : World} (h : a.Ok w w.heap.size) (k : Ext w w') : a.Ok w' w'.heap.size := (h.below k).more k.size

/-- What an act does, by the rest of its kind. -/
def actR (m : DM) (r : Nat) (sec num : Int) (bl : List Nat) (kl : List Bool) : Int × DM :=
  match r with
  | 0 => m.flush
  | 1 => m.crash kl
  | 2 => m.start
  | 3 => m.flip sec num
  | 4 => m.lose sec
  | 5 => m.stray sec num
  | 8 => m.setPower num
  | _ => m.write sec (actB num bl)
theorem act_actR (m : DM) (kind r : Nat) (h : kind % 9 = r) (sec num : Int) (bl : List Nat) (kl : List Bool) : m.act kind sec num bl kl = actR m r sec num bl kl := by
  subst h
  rfl
end Go.Proofs.YtbflofkcfhihcaaDoor

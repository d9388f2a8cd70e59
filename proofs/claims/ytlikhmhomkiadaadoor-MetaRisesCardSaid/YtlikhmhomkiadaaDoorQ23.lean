/-
  Plain facts on a disk with cells on it: what puts leave, with power or without; what is loaded then.
  Plain facts on what is hurt, without any program: sectors, places.
  The contract of the program's Wide and sectors.
  The contracts of the tag functions that reckon sectors: start, First, All, Where.
  The contracts of the observers' small functions: isHurt, known, knownPlace, restBytes, meantBytes, isBad.
-/
import Derived.Test.YtlikhmhomkiadaaDoorQ03
import Derived.Test.YtlikhmhomkiadaaDoorQ10
import Derived.Test.YtlikhmhomkiadaaDoorQ12
import Derived.Test.YtlikhmhomkiadaaDoorQ14
import Derived.Test.YtlikhmhomkiadaaDoorQ22
namespace Go.Proofs.YtlikhmhomkiadaaDoor
set_option maxRecDepth 100000

/-- What a sector holds, as a reader has it. -/
def DM.hold (m : DM) (s : Nat) : List Nat := if m.lost.getD s false = true then [] else m.rest.getD s []
/-- A disk of 156 sectors on which nothing waits, but for down and dead. -/
structure CB (m : DM) (w : List (Nat × List Nat)) : Prop where
  ok : m.Ok
  size : m.size = 156
  waits : m.waits = w
  down : m.down = false
structure CD (m : DM) (pw : Int) : Prop where
  b : CB m []
  dead : m.dead = false
  power : m.power = pw
theorem CD.up {m : DM} {pw : Int} (h : CD m pw) : m.up = true := by unfold DM.up; rw [h.b.down, h.dead]; rfl
theorem CD.has {m : DM} {pw : Int} (h : CD m pw) {s : Nat} (hs : s < 156) : m.has (s : Int) = true := DM.has_iff.2 ⟨by omega, by rw [h.b.size]; omega⟩
theorem CD.read {m : DM} {pw : Int} (h : CD m pw) {s : Nat} (hs : s < 156) : (m.read (s : Int)).1 = m.hold s := by
  unfold DM.read DM.hold
  rw [if_neg (by rw [h.up]; simp), if_neg (by rw [h.has hs]; simp), h.b.waits, Int.toNat_natCast]
  simp only [lastW]
  split <;> rfl
theorem CD.new : CD (DM.new 156) (-1) := ⟨⟨DM.new_ok 156, by simp [DM.new, DM.size], rfl, rfl⟩, rfl, rfl⟩
theorem getD_rep {α : Type} {n s : Nat} {x d : α} (h : s < n) : (List.replicate n x).getD s d = x := by rw [List.getD_eq_getElem?_getD, List.getElem?_replicate, if_pos h]; rfl
theorem new_hold {s : Nat} (hs : s < 156) : (DM.new 156).hold s = z64 := by
  unfold DM.hold DM.new
  rw [if_neg (by rw [getD_rep hs]; simp), getD_rep hs]
theorem hold_comes {m : DM} (h : m.Ok) {l : List (Nat × List Nat)} (hl : ∀ x ∈ l, x.1 < m.size) (t : Nat) : (m.comes l).hold t = (lastW l t).getD (m.hold t) := by
  obtain ⟨h1, _, h3⟩ := comes_get l m h hl t
  unfold DM.hold
  rw [h1, h3]
  cases lastW l t <;> simp
theorem sect_write {L : List Nat} (h : Sect L) : L.length = 64 := h.1
section
variable {m : DM} {pw : Int} {s : Nat} {L : List Nat}
theorem CD.write0 (h : CD m 0) (hs : s < 156) (hL : Sect L) : m.write (s : Int) L = (5, { m with dead := true }) := by
  unfold DM.write
  rw [if_neg (by rw [h.up]; simp), if_neg (by rw [h.has hs, hL.1]; simp), if_pos h.power]
theorem CD.write1 (h : CD m pw) (hp : pw ≠ 0) (hs : s < 156) (hL : Sect L) : m.write (s : Int) L = (0, { m with power := lessP pw, waits := [(s, L)] }) := by
  unfold DM.write
  rw [if_neg (by rw [h.up]; simp), if_neg (by rw [h.has hs, hL.1]; simp), if_neg (by rw [h.power]; exact hp), h.power, h.b.waits, Int.toNat_natCast]
  rfl
theorem CD.put0 (h : CD m 0) (hs : s < 156) (hL : Sect L) : ∃ m', m.putC (s : Int) L = (5, m') ∧ CB m' [] ∧ ∀ t, m'.hold t = m.hold t := by
  refine ⟨{ m with dead := true }, ?_, ⟨⟨h.b.ok.meant, h.b.ok.lost, h.b.ok.rests, h.b.ok.means, h.b.ok.waits, h.b.ok.power⟩, h.b.size, h.b.waits, h.b.down⟩, fun t => rfl⟩
  unfold DM.putC
  rw [h.write0 hs hL, if_pos (by simp)]
theorem CD.waiting (h : CD m pw) (hs : s < 156) (hL : Sect L) (q : Int) (hq : -1 ≤ q) : ({ m with power := q, waits := [(s, L)] } : DM).Ok :=
  ⟨h.b.ok.meant, h.b.ok.lost, h.b.ok.rests, h.b.ok.means, fun x hx => by
    simp only [List.mem_singleton] at hx
    subst hx
    exact ⟨by show s < m.size; rw [h.b.size]; exact hs, hL⟩, hq⟩
theorem CD.put1 (h : CD m 1) (hs : s < 156) (hL : Sect L) : ∃ m', m.putC (s : Int) L = (5, m') ∧ CB m' [(s, L)] ∧ ∀ t, m'.hold t = m.hold t := by
  have hok := h.waiting hs hL 0 (by omega)
  refine ⟨{ m with power := 0, waits := [(s, L)], dead := true }, ?_, ⟨⟨hok.meant, hok.lost, hok.rests, hok.means, hok.waits, by show (-1 : Int) ≤ 0; omega⟩, h.b.size, rfl, h.b.down⟩, fun t => rfl⟩
  unfold DM.putC
  rw [h.write1 (by omega) hs hL]
  rw [if_neg (by simp)]
  unfold DM.flush
  have hu : ({ m with power := lessP 1, waits := [(s, L)] } : DM).up = true := by unfold DM.up; show (!(m.down || m.dead)) = true; rw [h.b.down, h.dead]; rfl
  rw [if_neg (by rw [hu]; simp), if_pos (by show lessP 1 = 0; rfl)]
  rfl
theorem CD.put2 (h : CD m pw) (hp : pw = -1 ∨ 2 ≤ pw) (hs : s < 156) (hL : Sect L) : ∃ m', m.putC (s : Int) L = (0, m') ∧ CD m' (lessP (lessP pw)) ∧ ∀ t, m'.hold t = if t = s then L else m.hold t := by
  have hp1 : lessP pw = -1 ∨ 1 ≤ lessP pw := by unfold lessP; split <;> omega
  have hu : ({ m with power := lessP pw, waits := [(s, L)] } : DM).up = true := by unfold DM.up; show (!(m.down || m.dead)) = true; rw [h.b.down, h.dead]; rfl
  have hok := h.waiting hs hL (lessP pw) (by omega)
  have hok2 : ({ m with power := lessP (lessP pw), waits := [(s, L)] } : DM).Ok := h.waiting hs hL _ (by unfold lessP at hp1 ⊢; omega)
  obtain ⟨w1, w2, w3, w4⟩ := DM.comes_waits [(s, L)] ({ m with power := lessP (lessP pw), waits := [(s, L)] } : DM)
  refine ⟨{ ({ m with power := lessP (lessP pw), waits := [(s, L)] } : DM).comes [(s, L)] with waits := [] }, ?_, ⟨⟨?_, ?_, rfl, ?_⟩, ?_, ?_⟩, fun t => ?_⟩
  · unfold DM.putC
    rw [h.write1 (by omega) hs hL, if_neg (by simp)]
    unfold DM.flush
    rw [if_neg (by rw [hu]; simp), if_neg (by show ¬ lessP pw = 0; omega)]
  · exact DM.clear_ok (DM.comes_ok _ hok2 fun x hx => (hok2.waits x hx).2)
  · show (DM.comes _ _).size = 156
    rw [DM.comes_size]
    exact h.b.size
  · exact w2.trans h.b.down
  · exact w3.trans h.dead
  · exact w4
  · show (DM.comes _ _).hold t = _
    rw [hold_comes hok2 (fun x hx => (hok2.waits x hx).1)]
    show ((none : Option (List Nat)).or (if s = t then some L else none)).getD _ = _
    by_cases hst : s = t
    · subst hst; simp
    · rw [if_neg hst, if_neg (fun e => hst e.symm)]; rfl
/-- A crash and a start. -/
theorem CB.again {w : List (Nat × List Nat)} (h : CB m w) (k : List Bool) : (m.crash k).1 = 0 ∧ (m.crash k).2.start.1 = 0 ∧ CD (m.crash k).2.start.2 (-1) ∧ ∀ t, (m.crash k).2.start.2.hold t = (lastW (kept w k) t).getD (m.hold t) := by
  have hc : m.crash k = (0, { m.comes (kept m.waits k) with waits := [], down := true }) := by unfold DM.crash; rw [if_neg (by rw [h.down]; simp)]
  have hs : ({ m.comes (kept m.waits k) with waits := [], down := true } : DM).start = (0, { ({ m.comes (kept m.waits k) with waits := [], down := true } : DM) with down := false, dead := false, power := -1 }) := by unfold DM.start; rw [if_neg (by simp)]
  have hok := DM.start_ok (DM.crash_ok h.ok k)
  have hl : ∀ x ∈ kept m.waits k, x.1 < m.size := fun x hx => (h.ok.waits x (kept_mem hx)).1
  rw [hc] at hok ⊢
  rw [hs] at hok ⊢
  refine ⟨rfl, rfl, ⟨⟨hok, ?_, rfl, rfl⟩, rfl, rfl⟩, fun t => ?_⟩
  · show (m.comes _).size = 156
    rw [DM.comes_size]
    exact h.size
  · show (m.comes (kept m.waits k)).hold t = _
    rw [hold_comes h.ok hl, h.waits]
end
theorem lastW_one (s : Nat) (L : List Nat) (k : List Bool) (t : Nat) (o : List Nat) : (lastW (kept [(s, L)] k) t).getD o = o ∨ (t = s ∧ (lastW (kept [(s, L)] k) t).getD o = L) := by
  cases k with
  | nil => exact .inl rfl
  | cons b k =>
    cases b with
    | false => left; show (lastW (kept [] k) t).getD o = o; simp [kept, lastW]
    | true =>
      by_cases h : s = t
      · right; exact ⟨h.symm, by show ((lastW (kept [] k) t).or (if s = t then some L else none)).getD o = L; rw [if_pos h]; simp [kept, lastW]⟩
      · left; show ((lastW (kept [] k) t).or (if s = t then some L else none)).getD o = o; rw [if_neg h]; simp [kept, lastW]
theorem lastW_oneall (s : Nat) (L : List Nat) (k : List Bool) : (∀ t o, (lastW (kept [(s, L)] k) t).getD o = o) ∨ (∀ t o, (lastW (kept [(s, L)] k) t).getD o = if t = s then L else o) := by
  cases k with
  | nil => exact .inl fun t o => rfl
  | cons b k =>
    cases b with
    | false => left; intro t o; show (lastW (kept [] k) t).getD o = o; simp [kept, lastW]
    | true =>
      right
      intro t o
      show ((lastW (kept [] k) t).or (if s = t then some L else none)).getD o = _
      by_cases h : s = t
      · rw [if_pos h, if_pos h.symm]; simp [kept, lastW]
      · rw [if_neg h, if_neg (fun e => h e.symm)]; simp [kept, lastW]

/-- Frames are put to two sectors. -/
def DM.two (m : DM) (a b : Nat) (La Lb : List Nat) : Int × DM := if (m.putC (a : Int) La).1 ≠ 0 then m.putC (a : Int) La else (m.putC (a : Int) La).2.putC (b : Int) Lb
/-- What two sectors hold behind it: nothing of it, the first one, or both. -/
inductive Part (m m2 : DM) (a b : Nat) (La Lb : List Nat) : Prop
  | none (h : ∀ t, m2.hold t = m.hold t)
  | one (h : ∀ t, m2.hold t = if t = a then La else m.hold t)
  | both (h : ∀ t, m2.hold t = if t = b then Lb else if t = a then La else m.hold t)
section
variable {m : DM} {pw : Int} {a b : Nat} {La Lb : List Nat}
theorem CD.two_ok (h : CD m pw) (hp : pw = -1 ∨ 4 ≤ pw) (ha : a < 156) (hb : b < 156) (hLa : Sect La) (hLb : Sect Lb) : ∃ m' q, m.two a b La Lb = (0, m') ∧ CD m' q ∧ (pw = -1 → q = -1) ∧ ∀ t, m'.hold t = if t = b then Lb else if t = a then La else m.hold t := by
  obtain ⟨m1, e1, h1, k1⟩ := h.put2 (s := a) (L := La) (by omega) ha hLa
  have hq : lessP (lessP pw) = -1 ∨ 2 ≤ lessP (lessP pw) := by unfold lessP; (repeat' split) <;> omega
  obtain ⟨m2, e2, h2, k2⟩ := h1.put2 (s := b) (L := Lb) hq hb hLb
  refine ⟨m2, _, ?_, h2, fun e => by subst e; rfl, fun t => ?_⟩
  · unfold DM.two
    rw [e1, if_neg (by simp)]
    exact e2
  · rw [k2, k1]
/-- With power for k writes and flushes, and any crash: what is there then. -/
theorem CD.two_power {k : Nat} (h : CD m (k : Int)) (ha : a < 156) (hb : b < 156) (hLa : Sect La) (hLb : Sect Lb) (keep : List Bool) : ((m.two a b La Lb).1 = if k < 4 then 5 else 0) ∧ ((m.two a b La Lb).2.crash keep).1 = 0 ∧ ((m.two a b La Lb).2.crash keep).2.start.1 = 0 ∧
    CD ((m.two a b La Lb).2.crash keep).2.start.2 (-1) ∧ Part m ((m.two a b La Lb).2.crash keep).2.start.2 a b La Lb ∧ (4 ≤ k → ∀ t, ((m.two a b La Lb).2.crash keep).2.start.2.hold t = if t = b then Lb else if t = a then La else m.hold t) := by
  have hk : k = 0 ∨ k = 1 ∨ k = 2 ∨ k = 3 ∨ 4 ≤ k := by omega
  rcases hk with rfl | rfl | rfl | rfl | hk
  · obtain ⟨m1, e1, h1, k1⟩ := CD.put0 (s := a) (L := La) h ha hLa
    have e : m.two a b La Lb = (5, m1) := by unfold DM.two; rw [e1, if_pos (by simp)]
    rw [e]
    obtain ⟨c1, c2, c3, c4⟩ := h1.again keep
    refine ⟨rfl, c1, c2, c3, .none fun t => ?_, fun h => absurd h (by omega)⟩
    rw [c4]
    exact k1 t
  · obtain ⟨m1, e1, h1, k1⟩ := CD.put1 (s := a) (L := La) h ha hLa
    have e : m.two a b La Lb = (5, m1) := by unfold DM.two; rw [e1, if_pos (by simp)]
    rw [e]
    obtain ⟨c1, c2, c3, c4⟩ := h1.again keep
    refine ⟨rfl, c1, c2, c3, ?_, fun h => absurd h (by omega)⟩
    rcases lastW_oneall a La keep with hw | hw
    · exact .none fun t => by rw [c4, hw]; exact k1 t
    · exact .one fun t => by rw [c4, hw, k1]
  · obtain ⟨m1, e1, h1, k1⟩ := h.put2 (s := a) (L := La) (by omega) ha hLa
    have h1 : CD m1 0 := h1
    obtain ⟨m2, e2, h2, k2⟩ := CD.put0 (s := b) (L := Lb) h1 hb hLb
    have e : m.two a b La Lb = (5, m2) := by unfold DM.two; rw [e1, if_neg (by simp)]; exact e2
    rw [e]
    obtain ⟨c1, c2, c3, c4⟩ := h2.again keep
    refine ⟨rfl, c1, c2, c3, .one fun t => ?_, fun h => absurd h (by omega)⟩
    rw [c4, ← k1, ← k2]
    rfl
  · obtain ⟨m1, e1, h1, k1⟩ := h.put2 (s := a) (L := La) (by omega) ha hLa
    have h1 : CD m1 1 := h1
    obtain ⟨m2, e2, h2, k2⟩ := CD.put1 (s := b) (L := Lb) h1 hb hLb
    have e : m.two a b La Lb = (5, m2) := by unfold DM.two; rw [e1, if_neg (by simp)]; exact e2
    rw [e]
    obtain ⟨c1, c2, c3, c4⟩ := h2.again keep
    refine ⟨rfl, c1, c2, c3, ?_, fun h => absurd h (by omega)⟩
    rcases lastW_oneall b Lb keep with hw | hw
    · exact .one fun t => by rw [c4, hw, k2, k1]
    · exact .both fun t => by rw [c4, hw, k2, k1]
  · obtain ⟨m1, q, e, h1, _, k1⟩ := h.two_ok (by omega) ha hb hLa hLb
    rw [e, if_neg (by omega)]
    obtain ⟨c1, c2, c3, c4⟩ := h1.b.again keep
    refine ⟨rfl, c1, c2, c3, .both fun t => ?_, fun _ t => ?_⟩ <;> (rw [c4]; exact k1 t)
end
end Go.Proofs.YtlikhmhomkiadaaDoor

namespace Go.Proofs.YtlikhmhomkiadaaDoor
set_option maxRecDepth 100000

/-- A sector is hurt: lost, or other at rest than meant. -/
def DM.hurt (m : DM) (s : Int) : Bool := (m.at_ s).2.1 || !decide ((m.at_ s).1 = (m.means s).1)
/-- Those of n sectors from a on that are hurt. -/
def hurtsIn (h : Int → Bool) (a : Int) (n : Nat) : List Int := ((List.range n).map fun k => a + ((k : Nat) : Int)).filter h
theorem hurtsIn_zero (h : Int → Bool) (a : Int) : hurtsIn h a 0 = [] := rfl
theorem hurtsIn_succ (h : Int → Bool) (a : Int) (n : Nat) : hurtsIn h a (n + 1) = if h (a + (n : Int)) = true then hurtsIn h a n ++ [a + (n : Int)] else hurtsIn h a n := by
  unfold hurtsIn
  rw [List.range_succ, List.map_append, List.filter_append]
  by_cases hh : h (a + (n : Int)) = true
  · simp [hh]
  · simp [hh]
theorem hurtsIn_len (h : Int → Bool) (a : Int) (n : Nat) : (hurtsIn h a n).length ≤ n := by
  unfold hurtsIn
  refine Nat.le_trans (List.length_filter_le _ _) ?_
  simp
theorem hurtsIn_mem {h : Int → Bool} {a : Int} {n : Nat} {s : Int} : s ∈ hurtsIn h a n ↔ h s = true ∧ a ≤ s ∧ s < a + n := by
  unfold hurtsIn
  rw [List.mem_filter, List.mem_map]
  constructor
  · rintro ⟨⟨k, hk, rfl⟩, hh⟩
    rw [List.mem_range] at hk
    exact ⟨hh, by omega, by omega⟩
  · rintro ⟨hh, h1, h2⟩
    exact ⟨⟨(s - a).toNat, by rw [List.mem_range]; omega, by omega⟩, hh⟩
theorem hurtsIn_nil {h : Int → Bool} {a : Int} {n : Nat} (hh : ∀ s, a ≤ s → s < a + n → h s = false) : hurtsIn h a n = [] := by
  rw [List.eq_nil_iff_forall_not_mem]
  intro s hs
  obtain ⟨h1, h2, h3⟩ := hurtsIn_mem.1 hs
  rw [hh s h2 h3] at h1
  cases h1
/-- Is any of n sectors from a on? -/
def anyIn (h : Int → Bool) (a : Int) (n : Nat) : Bool := (List.range n).any fun k => h (a + ((k : Nat) : Int))
theorem anyIn_iff {h : Int → Bool} {a : Int} {n : Nat} : anyIn h a n = true ↔ ∃ s, h s = true ∧ a ≤ s ∧ s < a + n := by
  unfold anyIn
  rw [List.any_eq_true]
  constructor
  · rintro ⟨k, hk, hh⟩
    rw [List.mem_range] at hk
    exact ⟨_, hh, by omega, by omega⟩
  · rintro ⟨s, hh, h1, h2⟩
    refine ⟨(s - a).toNat, by rw [List.mem_range]; omega, ?_⟩
    rw [show a + (((s - a).toNat : Nat) : Int) = s by omega]
    exact hh
theorem anyIn_nil {h : Int → Bool} {a : Int} {n : Nat} : anyIn h a n = !(hurtsIn h a n).isEmpty := by
  rw [Bool.eq_iff_iff, anyIn_iff]
  constructor
  · rintro ⟨s, hs⟩
    have := hurtsIn_mem.2 hs
    cases hl : hurtsIn h a n with
    | nil => rw [hl] at this; cases this
    | cons x l => rfl
  · intro hh
    cases hl : hurtsIn h a n with
    | nil => rw [hl] at hh; cases hh
    | cons x l => exact ⟨x, hurtsIn_mem.1 (by rw [hl]; simp)⟩
theorem anyIn_zero (h : Int → Bool) (a : Int) : anyIn h a 0 = false := rfl
theorem anyIn_succ (h : Int → Bool) (a : Int) (n : Nat) : anyIn h a (n + 1) = (anyIn h a n || h (a + (n : Int))) := by
  unfold anyIn
  rw [List.range_succ, List.any_append]
  simp
/-- The bytes of n sectors from a on. -/
def catS (f : Int → List Nat) (a : Int) : Nat → List Nat
  | 0 => []
  | n + 1 => catS f a n ++ f (a + (n : Int))
theorem catS_succ (f : Int → List Nat) (a : Int) (n : Nat) : catS f a (n + 1) = catS f a n ++ f (a + (n : Int)) := rfl
theorem catS_lt {f : Int → List Nat} {a : Int} {n : Nat} (h : ∀ s, ∀ x ∈ f s, x < 256) : ∀ x ∈ catS f a n, x < 256 := by
  induction n with
  | zero => intro x hx; cases hx
  | succ n ih =>
    intro x hx
    rw [catS_succ, List.mem_append] at hx
    exact hx.elim (ih x) (h _ x)
theorem catS_len {f : Int → List Nat} {a : Int} {n : Nat} (h : ∀ s, (f s).length ≤ 64) : (catS f a n).length ≤ 64 * n := by
  induction n with
  | zero => simp [catS]
  | succ n ih =>
    rw [catS_succ, List.length_append]
    have := h (a + (n : Int))
    omega
theorem catS_congr {f g : Int → List Nat} {a : Int} {n : Nat} (h : ∀ s, a ≤ s → s < a + n → f s = g s) : catS f a n = catS g a n := by
  induction n with
  | zero => rfl
  | succ n ih =>
    rw [catS_succ, catS_succ, ih (fun s h1 h2 => h s h1 (by omega)), h _ (by omega) (by omega)]
/-- What a place has at rest, what it is meant to have, whether one of its sectors is lost. -/
def DM.restL (m : DM) (a : Int) (n : Nat) : List Nat := catS (fun s => (m.at_ s).1) a n
def DM.meantL (m : DM) (a : Int) (n : Nat) : List Nat := catS (fun s => (m.means s).1) a n
def DM.lostB (m : DM) (a : Int) (n : Nat) : Bool := anyIn (fun s => (m.at_ s).2.1) a n
theorem at_sect {m : DM} (h : m.Ok) (s : Int) : (m.at_ s).1 = [] ∨ Sect (m.at_ s).1 := by
  unfold DM.at_
  split
  · exact .inl rfl
  · rename_i hh
    split
    · exact .inl rfl
    · right
      have hlt := DM.has_lt hh
      rw [List.getD_eq_getElem?_getD, List.getElem?_eq_getElem hlt, Option.getD_some]
      exact h.rests _ (List.getElem_mem hlt)
theorem means_sect {m : DM} (h : m.Ok) (s : Int) : (m.means s).1 = [] ∨ Sect (m.means s).1 := by
  unfold DM.means
  split
  · exact .inl rfl
  · rename_i hh
    right
    have hlt := DM.has_lt hh
    have hlt : s.toNat < m.meant.length := by rw [h.meant]; exact hlt
    rw [List.getD_eq_getElem?_getD, List.getElem?_eq_getElem hlt, Option.getD_some]
    exact h.means _ (List.getElem_mem hlt)
theorem sect_lt {b : List Nat} (h : b = [] ∨ Sect b) : ∀ x ∈ b, x < 256 := by
  rcases h with rfl | h
  · intro x hx; cases hx
  · exact h.2
theorem sect_len {b : List Nat} (h : b = [] ∨ Sect b) : b.length ≤ 64 := by
  rcases h with rfl | h
  · simp
  · rw [h.1]; omega
theorem unhurt {m : DM} {s : Int} (h : m.hurt s = false) : (m.at_ s).2.1 = false ∧ (m.at_ s).1 = (m.means s).1 := by
  unfold DM.hurt at h
  rw [Bool.or_eq_false_iff] at h
  exact ⟨h.1, by simpa using h.2⟩
/-- A place none of whose sectors is hurt has what it is meant to have. -/
theorem unhurt_place {m : DM} {a : Int} {n : Nat} (h : anyIn m.hurt a n = false) : m.lostB a n = false ∧ m.restL a n = m.meantL a n := by
  have hs : ∀ s, a ≤ s → s < a + n → m.hurt s = false := fun s h1 h2 => by
    cases hh : m.hurt s with
    | false => rfl
    | true => rw [anyIn_iff.2 ⟨s, hh, h1, h2⟩] at h; cases h
  refine ⟨?_, catS_congr fun s h1 h2 => (unhurt (hs s h1 h2)).2⟩
  unfold DM.lostB
  cases hl : anyIn (fun s => (m.at_ s).2.1) a n with
  | false => rfl
  | true =>
    obtain ⟨s, h1, h2, h3⟩ := anyIn_iff.1 hl
    rw [(unhurt (hs s h2 h3)).1] at h1
    cases h1
/-- What the observers answer of whom: no such disk, replica, place. -/
def knownG (sz : Nat) (r : Int) : Int := if sz = 0 then 1 else if sz < 156 ∨ r < 0 ∨ 7 ≤ r then 2 else 0
def placeG (sz : Nat) (r g p : Int) : Int := if knownG sz r ≠ 0 then knownG sz r else if firstS g p < 0 then 2 else 0
theorem knownG_ok {sz : Nat} {r : Int} (h : knownG sz r = 0) : 156 ≤ sz ∧ 0 ≤ r ∧ r < 7 := by
  unfold knownG at h
  split at h
  · cases h
  · split at h
    · cases h
    · omega
theorem placeG_ok {sz : Nat} {r g p : Int} (h : placeG sz r g p = 0) : knownG sz r = 0 ∧ 0 ≤ firstS g p := by
  unfold placeG at h
  split at h
  · rename_i hh; exact absurd h hh
  · rename_i hh
    split at h
    · cases h
    · exact ⟨by simpa using hh, by omega⟩
end Go.Proofs.YtlikhmhomkiadaaDoor

namespace Go.Proofs.YtlikhmhomkiadaaDoor
set_option maxRecDepth 100000
open Go Go.RowKit

theorem sectors_any (p q : Nat) (w : World) (h : p * q ≤ 9000000000000000000) :
    Calls Tryd.prog 77 #[.agg #[.int .i64 p, .int .i64 q]] w fun e w' => e = .returned (.int .i64 (p * q : Nat)) ∧ Ext w w' := by
  have h' : ((p : Int) * (q : Int)) = ((p * q : Nat) : Int) := by simp
  have HM := Lib.hid h'
  have h0 : (0 : Int) ≤ (p : Int) * (q : Int) := by rw [h']; omega
  have h1 : (p : Int) * (q : Int) ≤ 9000000000000000000 := by rw [h']; omega
  clear h h'
  go_enter Tryd.func77, Tryd.ntmps77
  go_wp2
  go_ret
  exact ⟨by rw [← HM.out]; rfl, (Ext.refl w).alloc _⟩

theorem wide_any (r : Int) (w : World) (hL : LaidT w) :
    Calls Tryd.prog 75 #[.int .i64 r] w fun e w' => e = .returned (.int .i64 (wid r)) ∧ Ext w w' := by
  have HL := Lib.hid hL
  have hf := area_field1
  clear hL
  go_enter Tryd.func75, Tryd.ntmps75
  go_wp2_with fail
  refine (find_any r _ HL.out).mono ?_
  rintro e w1 ⟨rfl, hx⟩
  have HX := Lib.hid hx
  clear hx
  go_wp2_with fail
  go_ret
  exact ⟨rfl, HX.out⟩
end Go.Proofs.YtlikhmhomkiadaaDoor

namespace Go.Proofs.YtlikhmhomkiadaaDoor
set_option maxRecDepth 100000
open Go Go.RowKit

set_option maxHeartbeats 800000 in
theorem start_any (r : Nat) (w : World) (hL : LaidT w) (hr : r ≤ 6) :
    Calls Tryd.prog 67 #[.int .i64 r] w fun e w' => e = .returned (.int .i64 (beg r)) ∧ Ext w w' := by
  have HL := Lib.hid hL
  clear hL
  go_enter Tryd.func67, Tryd.ntmps67
  go_wp2_with fail
  go_loopw [3, 6] (fun b i wr => ∃ k : Nat, k ≤ r ∧ i = .int .i64 k ∧ b = .int .i64 (beg k) ∧ Hid (Ext w wr)) (fun _ i _ => r - (intOf i).toNat)
  case atStart => exact ⟨0, Nat.zero_le _, rfl, rfl, Lib.hid (Ext.refl w)⟩
  case round =>
    obtain ⟨k, hk, rfl, rfl, HX⟩ := hrel
    by_cases hlt : k < r
    · have HB := Lib.hid (beg_next k (by omega))
      have hb := beg_le k
      have hp := plc_wid k
      go_wp2_with fail
      refine (find_any k _ (HL.out.ext HX.out)).mono ?_
      rintro e w1 ⟨rfl, hx⟩
      have HX := Lib.hid (HX.out.trans hx)
      clear hx
      go_wp2_with fail
      refine (sectors_any _ _ _ (by omega)).mono ?_
      rintro e w2 ⟨rfl, hx⟩
      have HX := Lib.hid (HX.out.trans hx)
      clear hx
      go_wp2_with fail
      go_roundw
      case rel => exact ⟨k + 1, by omega, by go_num, by rw [show ((k + 1 : Nat) : Int) = (k : Int) + 1 from rfl, HB.out]; go_num, HX⟩
      case measure => simp [intOf]; omega
    · have HK : Hid (k = r) := Lib.hid (by omega)
      go_wp2_with fail
      go_ret
      exact ⟨by rw [HK.out]; rfl, HX.out⟩

theorem all_any (w : World) (hL : LaidT w) :
    Calls Tryd.prog 56 #[] w fun e w' => e = .returned (.int .i64 156) ∧ Ext w w' := by
  have HL := Lib.hid hL
  clear hL
  go_enter Tryd.func56, Tryd.ntmps56
  go_wp2_with fail
  refine (start_any 6 _ HL.out (by omega)).mono ?_
  rintro e w1 ⟨rfl, hx⟩
  have HX := Lib.hid hx
  clear hx
  go_wp2_with fail
  go_ret
  exact ⟨rfl, HX.out⟩

theorem first_any (r p : Int) (w : World) (hL : LaidT w) :
    Calls Tryd.prog 65 #[.int .i64 r, .int .i64 p] w fun e w' => e = .returned (.int .i64 (firstS r p)) ∧ Ext w w' := by
  have HL := Lib.hid hL
  clear hL
  by_cases h0 : p < 0
  · have HF := Lib.hid (firstS_no (r := r) (p := p) (by omega))
    go_enter Tryd.func65, Tryd.ntmps65
    go_wp2_with fail
    go_ret
    exact ⟨by rw [HF.out]; rfl, Ext.refl w⟩
  by_cases h1 : (plc r : Int) ≤ p
  · have HF := Lib.hid (firstS_no (r := r) (p := p) (by omega))
    go_enter Tryd.func65, Tryd.ntmps65
    go_wp2_with fail
    refine (places_any r _ HL.out).mono ?_
    rintro e w1 ⟨rfl, hx⟩
    have HX := Lib.hid hx
    clear hx
    go_wp2_with fail
    go_ret
    exact ⟨by rw [HF.out]; rfl, HX.out⟩
  have hr := plc_some (r := r) (by omega)
  obtain ⟨r, rfl⟩ := Int.eq_ofNat_of_zero_le (show 0 ≤ r by omega)
  have HF := Lib.hid (firstS_yes (r := r) (p := p) (by omega))
  have hb := beg_le r
  have hpl := plc_le r
  have hw0 := wid_le r
  have h2 : 0 ≤ p * (wid r : Int) := Int.mul_nonneg (by omega) (by omega)
  have h3 : p * (wid r : Int) ≤ 48 * 2 := Int.mul_le_mul (by omega) (by omega) (by omega) (by omega)
  go_enter Tryd.func65, Tryd.ntmps65
  go_wp2_with fail
  refine (places_any r _ HL.out).mono ?_
  rintro e w1 ⟨rfl, hx⟩
  have HX := Lib.hid hx
  clear hx
  go_wp2_with fail
  refine (start_any r _ (HL.out.ext HX.out) (by omega)).mono ?_
  rintro e w2 ⟨rfl, hx⟩
  have HX := Lib.hid (HX.out.trans hx)
  clear hx
  go_wp2_with fail
  refine (wide_any r _ (HL.out.ext HX.out)).mono ?_
  rintro e w3 ⟨rfl, hx⟩
  have HX := Lib.hid (HX.out.trans hx)
  clear hx
  go_wp2_with fail
  go_ret
  exact ⟨by rw [HF.out]; rfl, HX.out⟩
end Go.Proofs.YtlikhmhomkiadaaDoor

namespace Go.Proofs.YtlikhmhomkiadaaDoor
set_option maxRecDepth 100000
open Go Go.RowKit
/-- What Size answers of a pointer, now and later. -/
def Sized (w : World) (p : Option Addr) (sz : Nat) : Prop := ∀ w', Ext w w' → Calls Tryd.prog 55 #[.pointer p] w' fun e w'' => e = .returned (.int .i64 (sz : Nat)) ∧ w' = w''
theorem Sized.ext {w w' : World} {p : Option Addr} {sz : Nat} (h : Sized w p sz) (k : Ext w w') : Sized w' p sz := fun _ hx => h _ (k.trans hx)
theorem Sized.of {w : World} {d : Nat} {F : Nat → Prop} {m : DM} (h : PDisk w d F m) : Sized w (some ⟨d, 0, none⟩) m.size := fun _ hx => size_pd (h.ext hx)

end Go.Proofs.YtlikhmhomkiadaaDoor

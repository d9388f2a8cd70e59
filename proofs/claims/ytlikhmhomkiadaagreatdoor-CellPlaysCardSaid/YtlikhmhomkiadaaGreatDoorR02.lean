/-
  Plain facts on disks, without any program: what a disk holds, what each act does to it.
  Plain facts on disks: what is there when writes have been carried out; what was flushed stays; what a fault leaves alone.
  What it means that the program's disk at a pointer is a disk in plain words.
  The contracts of the disk's small functions: made, known, running, Size, Waits, Up.
  The contracts of the disk's running, Size, Waits, Up, Power, Start, draw; and of those at a disk that nobody made.
-/
import Derived.Test.YtlikhmhomkiadaaGreatDoorR01
import Derived.Test.YtlikhmhomkiadaaGreatDoorProg
import Derived.Deep.MidRow
import Derived.WalkKit
import Derived.WalkSpells
import Derived.WalkLawsBesides
import Derived.BigQuiet
import Derived.Deep.QuietTactic
import Derived.Lib.Hide
import Derived.Outline
import Derived.LaidEqlPtr
namespace Go.Proofs.YtlikhmhomkiadaaGreatDoor
set_option maxRecDepth 100000

/-- A disk: what its sectors hold at rest, and are meant to; which are lost; the pending writes; down, dead; how many writes and flushes are left (-1: without end). -/
structure DM where
  rest : List (List Nat)
  meant : List (List Nat)
  lost : List Bool
  waits : List (Nat × List Nat) := []
  down : Bool := false
  dead : Bool := false
  power : Int := -1
def z64 : List Nat := List.replicate 64 0
def DM.new (n : Nat) : DM := { rest := List.replicate n z64, meant := List.replicate n z64, lost := List.replicate n false }
def DM.size (m : DM) : Nat := m.rest.length
def DM.has (m : DM) (s : Int) : Bool := decide (0 ≤ s) && decide (s < m.size)
def DM.up (m : DM) : Bool := !(m.down || m.dead)
/-- A write is carried out; writes are. -/
def DM.come (m : DM) (x : Nat × List Nat) : DM := { m with rest := m.rest.set x.1 x.2, meant := m.meant.set x.1 x.2, lost := m.lost.set x.1 false }
def DM.comes (m : DM) (l : List (Nat × List Nat)) : DM := l.foldl DM.come m
def lessP (p : Int) : Int := if 0 < p then p - 1 else p
/-- Those whose number is kept. -/
def kept : List (Nat × List Nat) → List Bool → List (Nat × List Nat)
  | x :: l, true :: k => x :: kept l k
  | _ :: l, false :: k => kept l k
  | _, _ => []
def DM.write (m : DM) (s : Int) (b : List Nat) : Int × DM :=
  if m.up = false then (5, m) else if m.has s = false ∨ b.length ≠ 64 then (2, m) else if m.power = 0 then (5, { m with dead := true }) else (0, { m with power := lessP m.power, waits := m.waits ++ [(s.toNat, b)] })
def DM.flush (m : DM) : Int × DM :=
  if m.up = false then (5, m) else if m.power = 0 then (5, { m with dead := true }) else (0, { ({ m with power := lessP m.power } : DM).comes m.waits with waits := [] })
def DM.setPower (m : DM) (n : Int) : Int × DM := if m.up = false then (5, m) else if n < 0 then (2, m) else (0, { m with power := n })
def DM.crash (m : DM) (k : List Bool) : Int × DM := if m.down = true then (5, m) else (0, { m.comes (kept m.waits k) with waits := [], down := true })
def DM.start (m : DM) : Int × DM := if m.down = false then (2, m) else (0, { m with down := false, dead := false, power := -1 })
def DM.flip (m : DM) (s bit : Int) : Int × DM := if m.has s = false ∨ bit < 0 then (2, m) else (0, { m with rest := m.rest.set s.toNat (flipB (m.rest.getD s.toNat []) (bit.toNat % 512)) })
def DM.lose (m : DM) (s : Int) : Int × DM := if m.has s = false then (2, m) else (0, { m with lost := m.lost.set s.toNat true })
def DM.stray (m : DM) (a b : Int) : Int × DM := if m.has a = false ∨ m.has b = false then (2, m) else (0, { m with rest := m.rest.set b.toNat (m.rest.getD a.toNat []), lost := m.lost.set b.toNat (m.lost.getD a.toNat false) })
/-- The last pending write of a sector. -/
def lastW : List (Nat × List Nat) → Nat → Option (List Nat)
  | [], _ => none
  | x :: l, s => (lastW l s).or (if x.1 = s then some x.2 else none)
def DM.read (m : DM) (s : Int) : List Nat × Int :=
  if m.up = false then ([], 5) else if m.has s = false then ([], 2) else match lastW m.waits s.toNat with
    | some b => (b, 0)
    | none => if m.lost.getD s.toNat false = true then ([], 50) else (m.rest.getD s.toNat [], 0)
def DM.at_ (m : DM) (s : Int) : List Nat × Bool × Int := if m.has s = false then ([], false, 2) else if m.lost.getD s.toNat false = true then ([], true, 0) else (m.rest.getD s.toNat [], false, 0)
def DM.means (m : DM) (s : Int) : List Nat × Int := if m.has s = false then ([], 2) else (m.meant.getD s.toNat [], 0)

/-- A disk that may be. -/
def Sect (b : List Nat) : Prop := b.length = 64 ∧ ∀ x ∈ b, x < 256
structure DM.Ok (m : DM) : Prop where
  meant : m.meant.length = m.size
  lost : m.lost.length = m.size
  rests : ∀ b ∈ m.rest, Sect b
  means : ∀ b ∈ m.meant, Sect b
  waits : ∀ x ∈ m.waits, x.1 < m.size ∧ Sect x.2
  power : -1 ≤ m.power
theorem z64_sect : Sect z64 := ⟨by simp [z64], fun x hx => by rw [z64, List.mem_replicate] at hx; omega⟩
theorem DM.new_ok (n : Nat) : (DM.new n).Ok :=
  ⟨by simp [new, size], by simp [new, size], fun b hb => by rw [(List.mem_replicate.1 hb).2]; exact z64_sect, fun b hb => by rw [(List.mem_replicate.1 hb).2]; exact z64_sect, fun x hx => (by cases hx), by show (-1 : Int) ≤ -1; omega⟩
theorem mem_set_of {α : Type} {P : α → Prop} {l : List α} {i : Nat} {x : α} (hl : ∀ y ∈ l, P y) (hx : P x) : ∀ y ∈ l.set i x, P y := fun y hy => by
  rcases List.mem_or_eq_of_mem_set hy with h | h
  · exact hl y h
  · rw [h]; exact hx
theorem DM.come_size (m : DM) (x : Nat × List Nat) : (m.come x).size = m.size := by simp [come, size]
theorem DM.come_ok {m : DM} (h : m.Ok) {x : Nat × List Nat} (hx : Sect x.2) : (m.come x).Ok :=
  ⟨by simp [come, size]; exact h.meant, by simp [come, size]; exact h.lost, mem_set_of h.rests hx, mem_set_of h.means hx, by rw [come_size]; exact h.waits, h.power⟩
theorem DM.comes_size (l : List (Nat × List Nat)) (m : DM) : (m.comes l).size = m.size := by
  induction l generalizing m with
  | nil => rfl
  | cons x l ih =>
    show ((m.come x).comes l).size = _
    rw [ih, come_size]
theorem DM.comes_ok (l : List (Nat × List Nat)) : ∀ {m : DM}, m.Ok → (∀ x ∈ l, Sect x.2) → (m.comes l).Ok := by
  induction l with
  | nil => intro m h _; exact h
  | cons x l ih =>
    intro m h hl
    exact ih (come_ok h (hl x (by simp))) (fun y hy => hl y (by simp [hy]))
theorem DM.comes_waits (l : List (Nat × List Nat)) (m : DM) : (m.comes l).waits = m.waits ∧ (m.comes l).down = m.down ∧ (m.comes l).dead = m.dead ∧ (m.comes l).power = m.power := by
  induction l generalizing m with
  | nil => exact ⟨rfl, rfl, rfl, rfl⟩
  | cons x l ih => exact ih (m.come x)
theorem kept_mem : ∀ {l : List (Nat × List Nat)} {k : List Bool} {x : Nat × List Nat}, x ∈ kept l k → x ∈ l
  | [], _, x, h => by simp [kept] at h
  | y :: l, [], x, h => by simp [kept] at h
  | y :: l, true :: k, x, h => by
    simp only [kept, List.mem_cons] at h
    rcases h with rfl | h
    · simp
    · exact List.mem_cons_of_mem _ (kept_mem h)
  | y :: l, false :: k, x, h => by
    simp only [kept] at h
    exact List.mem_cons_of_mem _ (kept_mem h)
theorem DM.clear_ok {m : DM} (h : m.Ok) : ({ m with waits := [] } : DM).Ok := ⟨h.meant, h.lost, h.rests, h.means, fun x hx => (by cases hx), h.power⟩
theorem DM.has_iff {m : DM} {s : Int} : m.has s = true ↔ 0 ≤ s ∧ s < m.size := by simp [has]
theorem DM.has_lt {m : DM} {s : Int} (h : ¬ m.has s = false) : s.toNat < m.rest.length := by
  have h' : m.has s = true := by simpa using h
  have := has_iff.1 h'
  unfold size at this
  omega
theorem DM.flip_ok {m : DM} (h : m.Ok) (s bit : Int) : (m.flip s bit).2.Ok := by
  unfold flip
  split
  · exact h
  · have hs : Sect (flipB (m.rest.getD s.toNat []) (bit.toNat % 512)) := by
      rename_i hh
      have hlt := has_lt fun h => hh (.inl h)
      have hm := h.rests _ (List.getElem_mem hlt)
      rw [List.getD_eq_getElem?_getD, List.getElem?_eq_getElem hlt, Option.getD_some]
      exact ⟨by rw [flipB_length]; exact hm.1, flipB_lt _ hm.2⟩
    exact ⟨by simp [size]; exact h.meant, by simp [size]; exact h.lost, mem_set_of h.rests hs, h.means, by simpa [size] using h.waits, h.power⟩
theorem DM.lose_ok {m : DM} (h : m.Ok) (s : Int) : (m.lose s).2.Ok := by
  unfold lose
  split
  · exact h
  · exact ⟨h.meant, by simp [size]; exact h.lost, h.rests, h.means, h.waits, h.power⟩
theorem DM.stray_ok {m : DM} (h : m.Ok) (a b : Int) : (m.stray a b).2.Ok := by
  unfold stray
  split
  · exact h
  · have hs : Sect (m.rest.getD a.toNat []) := by
      rename_i hh
      have hlt := has_lt fun h => hh (.inl h)
      rw [List.getD_eq_getElem?_getD, List.getElem?_eq_getElem hlt, Option.getD_some]
      exact h.rests _ (List.getElem_mem hlt)
    exact ⟨by simp [size]; exact h.meant, by simp [size]; exact h.lost, mem_set_of h.rests hs, h.means, by simpa [size] using h.waits, h.power⟩
theorem DM.setPower_ok {m : DM} (h : m.Ok) (n : Int) : (m.setPower n).2.Ok := by
  unfold setPower
  split
  · exact h
  · split
    · exact h
    · exact ⟨h.meant, h.lost, h.rests, h.means, h.waits, by show (-1 : Int) ≤ n; omega⟩
theorem DM.start_ok {m : DM} (h : m.Ok) : m.start.2.Ok := by
  unfold start
  split
  · exact h
  · exact ⟨h.meant, h.lost, h.rests, h.means, h.waits, Int.le_refl _⟩
theorem lessP_le {p : Int} (h : -1 ≤ p) : -1 ≤ lessP p := by unfold lessP; split <;> omega
theorem DM.write_ok {m : DM} (h : m.Ok) (s : Int) {b : List Nat} (hb : ∀ x ∈ b, x < 256) : (m.write s b).2.Ok := by
  unfold write
  split
  · exact h
  · split
    · exact h
    · split
      · exact ⟨h.meant, h.lost, h.rests, h.means, h.waits, h.power⟩
      · rename_i hh _
        refine ⟨h.meant, h.lost, h.rests, h.means, fun x hx => ?_, lessP_le h.power⟩
        rcases List.mem_append.1 hx with hx | hx
        · exact h.waits x hx
        · simp only [List.mem_singleton] at hx
          subst hx
          exact ⟨has_lt fun h => hh (.inl h), Classical.not_not.1 fun h => hh (.inr h), hb⟩
theorem DM.flush_ok {m : DM} (h : m.Ok) : m.flush.2.Ok := by
  unfold flush
  split
  · exact h
  · split
    · exact ⟨h.meant, h.lost, h.rests, h.means, h.waits, h.power⟩
    · exact clear_ok (comes_ok _ (m := { m with power := lessP m.power }) ⟨h.meant, h.lost, h.rests, h.means, h.waits, lessP_le h.power⟩ fun x hx => (h.waits x hx).2)
theorem DM.crash_ok {m : DM} (h : m.Ok) (k : List Bool) : (m.crash k).2.Ok := by
  unfold crash
  split
  · exact h
  · have hc := comes_ok (kept m.waits k) h fun x hx => (h.waits x (kept_mem hx)).2
    exact ⟨hc.meant, hc.lost, hc.rests, hc.means, fun x hx => (by cases hx), hc.power⟩

/-- What the statements' acts do: by the number of the kind, modulo 9; what they write. -/
def actB (num : Int) (bytes : List Nat) : List Nat := if bytes = [] then List.replicate 64 (num % 256).toNat else bytes
def DM.act (m : DM) (kind : Nat) (sec num : Int) (bytes : List Nat) (keep : List Bool) : Int × DM :=
  match kind % 9 with
  | 0 => m.flush
  | 1 => m.crash keep
  | 2 => m.start
  | 3 => m.flip sec num
  | 4 => m.lose sec
  | 5 => m.stray sec num
  | 8 => m.setPower num
  | _ => m.write sec (actB num bytes)
theorem actB_lt {num : Int} {bytes : List Nat} (hb : ∀ x ∈ bytes, x < 256) : ∀ x ∈ actB num bytes, x < 256 := by
  unfold actB
  split
  · intro x hx
    rw [(List.mem_replicate.1 hx).2]
    omega
  · exact hb
theorem DM.act_ok {m : DM} (h : m.Ok) (kind : Nat) (sec num : Int) {bytes : List Nat} (hb : ∀ x ∈ bytes, x < 256) (keep : List Bool) : (m.act kind sec num bytes keep).2.Ok := by
  unfold act
  split
  · exact flush_ok h
  · exact crash_ok h keep
  · exact start_ok h
  · exact flip_ok h sec num
  · exact lose_ok h sec
  · exact stray_ok h sec num
  · exact setPower_ok h num
  · exact write_ok h sec (actB_lt hb)
theorem DM.act_size {m : DM} (kind : Nat) (sec num : Int) (bytes : List Nat) (keep : List Bool) : (m.act kind sec num bytes keep).2.size = m.size := by
  unfold act
  split
  · unfold flush; split; · rfl
    split
    · rfl
    · show (DM.comes _ _).size = _
      rw [comes_size]; rfl
  · unfold crash; split; · rfl
    show (DM.comes _ _).size = _
    rw [comes_size]
  · unfold start; split <;> rfl
  · unfold flip; split <;> simp [size]
  · unfold lose; split <;> rfl
  · unfold stray; split <;> simp [size]
  · unfold setPower; split; · rfl
    split <;> rfl
  · unfold write; split; · rfl
    split; · rfl
    split <;> rfl
end Go.Proofs.YtlikhmhomkiadaaGreatDoor

namespace Go.Proofs.YtlikhmhomkiadaaGreatDoor
set_option maxRecDepth 100000

theorem getD_set {α : Type} {l : List α} {i j : Nat} {x d : α} (hi : i < l.length) : (l.set i x).getD j d = if i = j then x else l.getD j d := by
  rw [List.getD_eq_getElem?_getD, List.getElem?_set]
  by_cases h : i = j
  · subst h
    rw [if_pos rfl, if_pos hi, if_pos rfl]
    rfl
  · rw [if_neg h, if_neg h, List.getD_eq_getElem?_getD]
theorem getD_set_ne {α : Type} {l : List α} {i j : Nat} {x d : α} (h : i ≠ j) : (l.set i x).getD j d = l.getD j d := by
  rw [List.getD_eq_getElem?_getD, List.getElem?_set, if_neg h, List.getD_eq_getElem?_getD]

/-- What a sector holds when writes have been carried out: what the last one of it says, or what it held. -/
theorem lastW_snoc (l : List (Nat × List Nat)) (x : Nat × List Nat) (s : Nat) : lastW (l ++ [x]) s = if x.1 = s then some x.2 else lastW l s := by
  induction l with
  | nil =>
    show (none : Option (List Nat)).or (if x.1 = s then some x.2 else none) = _
    split <;> simp_all [lastW]
  | cons y l ih =>
    show (lastW (l ++ [x]) s).or _ = _
    rw [ih]
    by_cases h : x.1 = s
    · rw [if_pos h, if_pos h]; rfl
    · rw [if_neg h, if_neg h]; rfl
theorem lastW_none {l : List (Nat × List Nat)} {s : Nat} (h : ∀ x ∈ l, x.1 ≠ s) : lastW l s = none := by
  induction l with
  | nil => rfl
  | cons x l ih =>
    show (lastW l s).or (if x.1 = s then some x.2 else none) = none
    rw [ih (fun y hy => h y (by simp [hy])), if_neg (h x (by simp))]
    rfl
theorem lastW_mem {l : List (Nat × List Nat)} {s : Nat} {b : List Nat} (h : lastW l s = some b) : (s, b) ∈ l := by
  induction l with
  | nil => cases h
  | cons x l ih =>
    change (lastW l s).or (if x.1 = s then some x.2 else none) = some b at h
    cases hl : lastW l s with
    | some c =>
      rw [hl] at h
      injection h with h
      subst h
      exact List.mem_cons_of_mem _ (ih hl)
    | none =>
      rw [hl] at h
      change (if x.1 = s then some x.2 else none) = some b at h
      split at h
      · rename_i hx
        injection h with h
        rw [← h, ← hx]
        simp
      · cases h
theorem comes_get (l : List (Nat × List Nat)) : ∀ (m : DM), m.Ok → (∀ x ∈ l, x.1 < m.size) → ∀ s, (m.comes l).rest.getD s [] = (lastW l s).getD (m.rest.getD s []) ∧ (m.comes l).meant.getD s [] = (lastW l s).getD (m.meant.getD s []) ∧ (m.comes l).lost.getD s false = if (lastW l s).isSome then false else m.lost.getD s false := by
  intro m hm hl s
  induction l generalizing m with
  | nil => exact ⟨rfl, rfl, rfl⟩
  | cons x l ih =>
    have hx := hl x (by simp)
    have hlen : x.1 < m.rest.length := hx
    have hlen2 : x.1 < m.meant.length := by rw [hm.meant]; exact hx
    have hlen3 : x.1 < m.lost.length := by rw [hm.lost]; exact hx
    have key : ∀ (m' : DM), m'.meant.length = m'.size → m'.lost.length = m'.size → (∀ y ∈ l, y.1 < m'.size) → (m'.comes l).rest.getD s [] = (lastW l s).getD (m'.rest.getD s []) ∧ (m'.comes l).meant.getD s [] = (lastW l s).getD (m'.meant.getD s []) ∧ (m'.comes l).lost.getD s false = if (lastW l s).isSome then false else m'.lost.getD s false := by
      clear ih hm hlen hlen2 hlen3 hx hl
      induction l with
      | nil => intro m' _ _ _; exact ⟨rfl, rfl, rfl⟩
      | cons y l ih2 =>
        intro m' h1 h2 h3
        have hy := h3 y (by simp)
        obtain ⟨r1, r2, r3⟩ := ih2 (m'.come y) (by simp [DM.come, DM.size]; exact h1) (by simp [DM.come, DM.size]; exact h2) (fun z hz => by rw [DM.come_size]; exact h3 z (by simp [hz]))
        have e : lastW (y :: l) s = (lastW l s).or (if y.1 = s then some y.2 else none) := rfl
        have g1 : (m'.come y).rest.getD s [] = if y.1 = s then y.2 else m'.rest.getD s [] := getD_set hy
        have g2 : (m'.come y).meant.getD s [] = if y.1 = s then y.2 else m'.meant.getD s [] := getD_set (by rw [h1]; exact hy)
        have g3 : (m'.come y).lost.getD s false = if y.1 = s then false else m'.lost.getD s false := getD_set (by rw [h2]; exact hy)
        show ((m'.come y).comes l).rest.getD s [] = _ ∧ ((m'.come y).comes l).meant.getD s [] = _ ∧ ((m'.come y).comes l).lost.getD s false = _
        rw [r1, r2, r3, g1, g2, g3, e]
        cases lastW l s with
        | some b => exact ⟨rfl, rfl, rfl⟩
        | none =>
          by_cases hys : y.1 = s
          · simp [hys]
          · simp [hys]
    obtain ⟨r1, r2, r3⟩ := key (m.come x) (by simp [DM.come, DM.size]; exact hm.meant) (by simp [DM.come, DM.size]; exact hm.lost) (fun z hz => by rw [DM.come_size]; exact hl z (by simp [hz]))
    have g1 : (m.come x).rest.getD s [] = if x.1 = s then x.2 else m.rest.getD s [] := getD_set hlen
    have g2 : (m.come x).meant.getD s [] = if x.1 = s then x.2 else m.meant.getD s [] := getD_set hlen2
    have g3 : (m.come x).lost.getD s false = if x.1 = s then false else m.lost.getD s false := getD_set hlen3
    have e : lastW (x :: l) s = (lastW l s).or (if x.1 = s then some x.2 else none) := rfl
    show ((m.come x).comes l).rest.getD s [] = _ ∧ ((m.come x).comes l).meant.getD s [] = _ ∧ ((m.come x).comes l).lost.getD s false = _
    rw [r1, r2, r3, g1, g2, g3, e]
    cases lastW l s with
    | some b => exact ⟨rfl, rfl, rfl⟩
    | none =>
      by_cases hys : x.1 = s
      · simp [hys]
      · simp [hys]
/-- Of writes in their order one more, and whether it is kept. -/
theorem kept_snoc : ∀ (l : List (Nat × List Nat)) (x : Nat × List Nat) (k : List Bool), kept (l ++ [x]) k = if k[l.length]? = some true then kept l k ++ [x] else kept l k
  | [], x, [] => by simp [kept]
  | [], x, true :: k => by simp [kept]
  | [], x, false :: k => by simp [kept]
  | y :: l, x, [] => by simp [kept]
  | y :: l, x, true :: k => by
    simp only [List.cons_append, kept, List.length_cons, List.getElem?_cons_succ]
    rw [kept_snoc l x k]
    split <;> simp
  | y :: l, x, false :: k => by
    simp only [List.cons_append, kept, List.length_cons, List.getElem?_cons_succ]
    exact kept_snoc l x k
end Go.Proofs.YtlikhmhomkiadaaGreatDoor

namespace Go.Proofs.YtlikhmhomkiadaaGreatDoor
set_option maxRecDepth 100000
open Go Go.RowKit

/-- The cells of a sector behind the cache, and of a write. -/
def secC (r m : List Nat) (l : Bool) : List Value := vb r ++ (vb m ++ [.bool l])
def wriC (x : Nat × List Nat) : List Value := vb x.2 ++ [.int .i64 (x.1 : Int)]
def penC (l : List (Nat × List Nat)) : List Value := l.flatMap wriC
def DM.sec (m : DM) (s : Nat) : List Value := secC (m.rest.getD s []) (m.meant.getD s []) (m.lost.getD s false)
def stOf (m : DM) : Int := if m.down = true then 2 else if m.dead = true then 1 else 0

theorem secC_len {r m : List Nat} {l : Bool} (hr : r.length = 64) (hm : m.length = 64) : (secC r m l).length = 129 := by simp [secC, vb_length, hr, hm]
theorem wriC_len {x : Nat × List Nat} (h : x.2.length = 64) : (wriC x).length = 65 := by simp [wriC, vb_length, h]
theorem penC_len : ∀ {l : List (Nat × List Nat)}, (∀ x ∈ l, x.2.length = 64) → (penC l).length = l.length * 65
  | [], _ => rfl
  | x :: l, h => by
    show (wriC x ++ penC l).length = _
    rw [List.length_append, wriC_len (h x (by simp)), penC_len (fun y hy => h y (by simp [hy]))]
    simp only [List.length_cons]; omega
theorem penC_snoc (l : List (Nat × List Nat)) (x : Nat × List Nat) : penC (l ++ [x]) = penC l ++ wriC x := by simp [penC]
theorem penC_get : ∀ {l : List (Nat × List Nat)} {i : Nat} {x : Nat × List Nat}, (∀ x ∈ l, x.2.length = 64) → l[i]? = some x → ∀ j v, (wriC x)[j]? = some v → (penC l)[i * 65 + j]? = some v
  | [], i, x, _, h => by simp at h
  | y :: l, 0, x, hl, h => by
    intro j v hv
    simp only [List.getElem?_cons_zero, Option.some.injEq] at h
    subst h
    show (wriC y ++ penC l)[0 * 65 + j]? = _
    have hj : j < (wriC y).length := (List.getElem?_eq_some_iff.1 hv).1
    rw [Nat.zero_mul, Nat.zero_add, List.getElem?_append_left hj]
    exact hv
  | y :: l, i + 1, x, hl, h => by
    intro j v hv
    have ih := penC_get (fun z hz => hl z (by simp [hz])) (show l[i]? = some x by simpa using h) j v hv
    show (wriC y ++ penC l)[(i + 1) * 65 + j]? = _
    have h65 := wriC_len (hl y (by simp))
    rw [List.getElem?_append_right (by omega), h65, show (i + 1) * 65 + j - 65 = i * 65 + j by omega]
    exact ih

theorem vb_oneA (l : List Nat) : ∀ u ∈ vb l, u.oneCell' = true := vb_one l
theorem wriC_one (x : Nat × List Nat) : ∀ u ∈ wriC x, u.oneCell' = true := by
  intro u hu
  simp only [wriC, List.mem_append, List.mem_singleton] at hu
  rcases hu with hu | rfl
  · exact vb_one _ u hu
  · rfl
theorem secC_one (r m : List Nat) (l : Bool) : ∀ u ∈ secC r m l, u.oneCell' = true := by
  intro u hu
  simp only [secC, List.mem_append, List.mem_singleton] at hu
  rcases hu with hu | hu | rfl
  · exact vb_one _ u hu
  · exact vb_one _ u hu
  · rfl

/-- The sectors lie in block g. -/
def MedAt (w : World) (g : Nat) (m : DM) : Prop := ∃ cur : Array Value, w.heap[g]? = some (.cells cur 150 (0, 0)) ∧ cur.size = m.size * 129 ∧ ∀ s, s < m.size → ∀ j v, (m.sec s)[j]? = some v → cur[s * 129 + j]? = some v
/-- The disk at block d: its sectors in block g, its pending writes the slice pv. -/
structure PD (w : World) (d g : Nat) (pv : Value) (m : DM) : Prop where
  ok : m.Ok
  n1 : 1 ≤ m.size ∧ m.size ≤ 1024
  top : m.power ≤ 9223372036854775807
  head : w.heap[d]? = some (.cells #[.pointer (some ⟨d, 0, none⟩), .int .u8 (stOf m), .int .i64 m.power, .slice (some ⟨g, 0, none⟩) m.size m.size, pv] 102 (0, 0))
  med : MedAt w g m
  pen : w.ownsRow 0 165 65 pv m.waits.length (penC m.waits)
  dg : d ≠ g
  pd : ∀ k, pv.ownBlock = some k → k ≠ d ∧ k ≠ g
def Fp (d g : Nat) (pv : Value) (k : Nat) : Prop := k = d ∨ k = g ∨ pv.ownBlock = some k
/-- The program's disk: its blocks are among those of F. -/
def PDisk (w : World) (d : Nat) (F : Nat → Prop) (m : DM) : Prop := ∃ g pv, PD w d g pv m ∧ (∀ k, Fp d g pv k → F k) ∧ ∀ k, F k → k < w.heap.size

theorem MedAt.mod {w w' : World} {g : Nat} {m : DM} {F : Nat → Prop} (h : MedAt w g m) (k : Mod F w w') (hg : ¬ F g) : MedAt w' g m := by
  obtain ⟨cur, h1, h2⟩ := h
  exact ⟨cur, heap_mod h1 k hg, h2⟩
theorem PD.mod {w w' : World} {d g : Nat} {pv : Value} {m : DM} {F : Nat → Prop} (h : PD w d g pv m) (k : Mod F w w') (hF : ∀ i, Fp d g pv i → ¬ F i) : PD w' d g pv m :=
  ⟨h.ok, h.n1, h.top, heap_mod h.head k (hF _ (.inl rfl)), h.med.mod k (hF _ (.inr (.inl rfl))), own_mod h.pen k (fun i hi => hF i (.inr (.inr hi))), h.dg, h.pd⟩
theorem PDisk.mod {w w' : World} {d : Nat} {F G : Nat → Prop} {m : DM} (h : PDisk w d F m) (k : Mod G w w') (hF : ∀ i, F i → ¬ G i) : PDisk w' d F m := by
  obtain ⟨g, pv, h1, h2, h3⟩ := h
  exact ⟨g, pv, h1.mod k fun i hi => hF i (h2 i hi), h2, fun i hi => Nat.lt_of_lt_of_le (h3 i hi) k.size⟩
theorem PDisk.ext {w w' : World} {d : Nat} {F : Nat → Prop} {m : DM} (h : PDisk w d F m) (k : Ext w w') : PDisk w' d F m := h.mod (G := fun _ => False) (Mod.of_ext k) fun _ _ h => h
theorem PDisk.lt {w : World} {d : Nat} {F : Nat → Prop} {m : DM} (h : PDisk w d F m) : ∀ k, F k → k < w.heap.size := h.choose_spec.choose_spec.2.2
theorem PDisk.ok {w : World} {d : Nat} {F : Nat → Prop} {m : DM} (h : PDisk w d F m) : m.Ok := h.choose_spec.choose_spec.1.ok
theorem PDisk.n1 {w : World} {d : Nat} {F : Nat → Prop} {m : DM} (h : PDisk w d F m) : 1 ≤ m.size ∧ m.size ≤ 1024 := h.choose_spec.choose_spec.1.n1

/-- The head's five cells. -/
theorem cells5 {w : World} {g : Nat} {t : TypeId} {x0 x1 x2 x3 x4 : Value} (h : w.heap[g]? = some (.cells #[x0, x1, x2, x3, x4] t (0, 0))) :
    (w.cell? ⟨g, 0, none⟩ = some x0 ∧ w.cell? ⟨g, 1, none⟩ = some x1 ∧ w.cell? ⟨g, 2, none⟩ = some x2 ∧ w.cell? ⟨g, 3, none⟩ = some x3 ∧ w.cell? ⟨g, 4, none⟩ = some x4) ∧
      (w.frozen? ⟨g, 0, none⟩ = false ∧ w.frozen? ⟨g, 1, none⟩ = false ∧ w.frozen? ⟨g, 2, none⟩ = false ∧ w.frozen? ⟨g, 3, none⟩ = false ∧ w.frozen? ⟨g, 4, none⟩ = false) :=
  ⟨⟨cell_of_row w g 0 _ _ _ h, cell_of_row w g 1 _ _ _ h, cell_of_row w g 2 _ _ _ h, cell_of_row w g 3 _ _ _ h, cell_of_row w g 4 _ _ _ h⟩,
    ⟨frozen_of_row w g 0 _ _ h, frozen_of_row w g 1 _ _ h, frozen_of_row w g 2 _ _ h, frozen_of_row w g 3 _ _ h, frozen_of_row w g 4 _ _ h⟩⟩
theorem PD.cells {w : World} {d g : Nat} {pv : Value} {m : DM} (h : PD w d g pv m) :
    (w.cell? ⟨d, 0, none⟩ = some (.pointer (some ⟨d, 0, none⟩)) ∧ w.cell? ⟨d, 1, none⟩ = some (.int .u8 (stOf m)) ∧ w.cell? ⟨d, 2, none⟩ = some (.int .i64 m.power) ∧ w.cell? ⟨d, 3, none⟩ = some (.slice (some ⟨g, 0, none⟩) m.size m.size) ∧ w.cell? ⟨d, 4, none⟩ = some pv) ∧
      (w.frozen? ⟨d, 0, none⟩ = false ∧ w.frozen? ⟨d, 1, none⟩ = false ∧ w.frozen? ⟨d, 2, none⟩ = false ∧ w.frozen? ⟨d, 3, none⟩ = false ∧ w.frozen? ⟨d, 4, none⟩ = false) := cells5 h.head
theorem PD.lt {w : World} {d g : Nat} {pv : Value} {m : DM} (h : PD w d g pv m) : d < w.heap.size := (Array.getElem?_eq_some_iff.1 h.head).1
theorem PD.glt {w : World} {d g : Nat} {pv : Value} {m : DM} (h : PD w d g pv m) : g < w.heap.size := by
  obtain ⟨cur, h1, _⟩ := h.med
  exact (Array.getElem?_eq_some_iff.1 h1).1
/-- One cell of a known block is stored into. -/
theorem row_set {w : World} {g t : Nat} {fr : Nat × Nat} {cs cs' : Array Value} (i : Nat) (h : w.heap[g]? = some (.cells cs t fr)) (x : Value) (e : cs.setIfInBounds i x = cs') : (w.setCell ⟨g, i, none⟩ x).heap[g]? = some (.cells cs' t fr) := by
  subst e
  rw [setCell_eq_setRow w g i cs t fr x h]
  exact setRow_heap w g _ _ _ _ h
theorem heap_set {w : World} {g h k : Nat} {x : Value} {o : Obj} (hne : h ≠ g) (hh : w.heap[h]? = some o) : (w.setCell ⟨g, k, none⟩ x).heap[h]? = some o := by
  rw [Below.heap_setCell _ _ _ _ hne]
  exact hh
/-- The state of a disk. -/
theorem stOf_up {m : DM} (h : m.up = true) : stOf m = 0 := by
  unfold DM.up at h
  unfold stOf
  cases hd : m.down <;> cases he : m.dead <;> simp_all
theorem stOf_not {m : DM} (h : m.up = false) : stOf m ≠ 0 := by
  unfold DM.up at h
  unfold stOf
  cases hd : m.down <;> cases he : m.dead <;> simp_all
theorem stOf_down {m : DM} : stOf m = 2 ↔ m.down = true := by
  unfold stOf
  cases hd : m.down <;> cases he : m.dead <;> simp_all
end Go.Proofs.YtlikhmhomkiadaaGreatDoor

namespace Go.Proofs.YtlikhmhomkiadaaGreatDoor
set_option maxRecDepth 100000
open Go Go.RowKit

theorem eql_self (a : Addr) (w : World) : (binOp .eql 24 (.pointer (some a)) (.pointer (some a))).run Tryz.prog w = .ok (.bool true) w := by
  have hi : (Tryz.prog.info? 102).isSome = true := by kernel_rfl
  obtain ⟨j, hj⟩ := Option.isSome_iff_exists.1 hi
  exact run_eql_ptr_same w a Tryz.underlying24 hj
theorem eql_nil_some (a : Addr) (w : World) : (binOp .eql 24 (.pointer none) (.pointer (some a))).run Tryz.prog w = .ok (.bool false) w := by
  have h : ∀ d : Nat, (Op.equalIn (d + 1) 24 (.pointer none) (.pointer (some a))).run Tryz.prog w = .ok false w := fun d => by
    simp [Op.equalIn, run_underlying Tryz.underlying24]
  simp only [binOp]
  simp [Op.equal, Op.maxDepth, h 9999]
set_option maxRecDepth 100000 in
set_option maxHeartbeats 400000 in
theorem made_yes (d : Nat) (w : World) (h : w.cell? ⟨d, 0, none⟩ = some (.pointer (some ⟨d, 0, none⟩))) :
    Calls Tryz.prog 84 #[.pointer (some ⟨d, 0, none⟩)] w fun e w' => e = .returned (.bool true) ∧ w = w' := by
  have he := eql_self
  go_enter Tryz.func84, Tryz.ntmps84
  go_wp2
  go_ret
  exact ⟨rfl, rfl⟩
/-- A pointer to no disk that New returned: nil, or to one whose first cell is nil. -/
def Unmade (w : World) (p : Option Addr) : Prop := p = none ∨ ∃ d, p = some ⟨d, 0, none⟩ ∧ w.cell? ⟨d, 0, none⟩ = some (.pointer none)
set_option maxRecDepth 100000 in
set_option maxHeartbeats 400000 in
theorem made_no (p : Option Addr) (w : World) (h : Unmade w p) :
    Calls Tryz.prog 84 #[.pointer p] w fun e w' => e = .returned (.bool false) ∧ w = w' := by
  rcases h with rfl | ⟨d, rfl, h⟩
  · go_enter Tryz.func84, Tryz.ntmps84
    go_wp2
    go_ret
    exact ⟨rfl, rfl⟩
  · have he := eql_nil_some
    go_enter Tryz.func84, Tryz.ntmps84
    go_wp2
    go_ret
    exact ⟨rfl, rfl⟩

/-- Are these numbers of sectors of a disk of n? -/
def knownE (n : Nat) (zs : List Int) : Int := if ∀ z ∈ zs, 0 ≤ z ∧ z < (n : Int) then 0 else 2
set_option maxRecDepth 100000 in
set_option maxHeartbeats 1600000 in
theorem known_yes (d g n : Nat) (A : Option Addr) (k c : Nat) (zs : List Int) (w : World) (h : w.cell? ⟨d, 0, none⟩ = some (.pointer (some ⟨d, 0, none⟩))) (h3 : w.cell? ⟨d, 3, none⟩ = some (.slice (some ⟨g, 0, none⟩) n n))
    (hk : zs.length = k) (hk2 : k ≤ 1000) (hz : 0 < k → ∃ b, A = some ⟨b, 0, none⟩ ∧ ∀ (j : Nat) (z : Int), zs[j]? = some z → w.cell? ⟨b, j, none⟩ = some (.int .i64 z)) :
    Calls Tryz.prog 81 #[.pointer (some ⟨d, 0, none⟩), .slice A k c] w fun e w' => e = .returned (.int .i64 (knownE n zs)) ∧ w = w' := by
  have HK := Lib.hid hk
  have HZ := Lib.hid hz
  clear hk hz
  go_enter Tryz.func81, Tryz.ntmps81
  go_wp2_with fail
  refine (made_yes d _ h).mono ?_
  rintro e w1 ⟨rfl, rfl⟩
  go_wp2_with fail
  go_loopw [12] (fun i wr => ∃ j : Nat, j ≤ k ∧ i = .int .i64 j ∧ w = wr ∧ ∀ z ∈ zs.take j, 0 ≤ z ∧ z < (n : Int)) (fun i _ => k - (intOf i).toNat)
  case atStart => exact ⟨0, Nat.zero_le _, rfl, rfl, by simp⟩
  case round =>
    obtain ⟨j, hj, rfl, rfl, hall⟩ := hrel
    have HA := Lib.hid hall
    clear hall
    by_cases hlt : j < k
    · obtain ⟨b, rfl, hc⟩ := HZ.out (by omega)
      obtain ⟨z, hzj⟩ : ∃ z, zs[j]? = some z := ⟨_, List.getElem?_eq_getElem (by rw [HK.out]; exact hlt)⟩
      have hcz := hc j z hzj
      have HJ := Lib.hid hzj
      clear hc hzj
      have no : ¬ (0 ≤ z ∧ z < (n : Int)) → Ending.returned (Value.int .i64 2) = .returned (.int .i64 (knownE n zs)) := fun hn => by
        have hm : z ∈ zs := List.mem_of_getElem? HJ.out
        unfold knownE
        rw [if_neg fun ha => hn (ha z hm)]
      have HNO := Lib.hid no
      clear no
      by_cases h0 : z < 0
      · go_wp2_with fail
        go_ret
        exact ⟨HNO.out (by omega), rfl⟩
      · by_cases h1 : (n : Int) ≤ z
        · go_wp2_with fail
          go_ret
          exact ⟨HNO.out (by omega), rfl⟩
        · go_wp2_with fail
          go_roundw
          case rel => exact ⟨j + 1, by omega, by go_num, trivial, fun y hy => by
            rw [List.take_add_one, HJ.out] at hy
            rcases List.mem_append.1 hy with hy | hy
            · exact HA.out y hy
            · simp at hy; subst hy; omega⟩
          case measure => simp [intOf]; omega
    · have HF : Hid (knownE n zs = 0) := Lib.hid (by
        have := HA.out
        rw [List.take_of_length_le (by rw [HK.out]; omega)] at this
        unfold knownE
        rw [if_pos this])
      go_wp2_with fail
      go_ret
      exact ⟨by rw [HF.out]; rfl, rfl⟩
end Go.Proofs.YtlikhmhomkiadaaGreatDoor

namespace Go.Proofs.YtlikhmhomkiadaaGreatDoor
set_option maxRecDepth 100000
open Go Go.RowKit

/-- Where the numbers of sectors lie. -/
def ZsAt (w : World) (A : Option Addr) (k : Nat) (zs : List Int) : Prop := zs.length = k ∧ k ≤ 1000 ∧ (0 < k → ∃ b, A = some ⟨b, 0, none⟩ ∧ ∀ (j : Nat) (z : Int), zs[j]? = some z → w.cell? ⟨b, j, none⟩ = some (.int .i64 z))
theorem ZsAt.nil_ (w : World) : ZsAt w none 0 [] := ⟨rfl, by omega, fun h => absurd h (by omega)⟩
def runE (m : DM) (zs : List Int) : Int := if m.up = false then 5 else knownE m.size zs
theorem known_of {w : World} {d g : Nat} {pv : Value} {m : DM} (h : PD w d g pv m) (A : Option Addr) (k c : Nat) (zs : List Int) (hz : ZsAt w A k zs) :
    Calls Tryz.prog 81 #[.pointer (some ⟨d, 0, none⟩), .slice A k c] w fun e w' => e = .returned (.int .i64 (knownE m.size zs)) ∧ w = w' :=
  known_yes d g m.size A k c zs w h.cells.1.1 h.cells.1.2.2.2.1 hz.1 hz.2.1 hz.2.2

set_option maxRecDepth 100000 in
set_option maxHeartbeats 800000 in
theorem running_of {w : World} {d g : Nat} {pv : Value} {m : DM} (h : PD w d g pv m) (A : Option Addr) (k c : Nat) (zs : List Int) (hz : ZsAt w A k zs) :
    Calls Tryz.prog 98 #[.pointer (some ⟨d, 0, none⟩), .slice A k c] w fun e w' => e = .returned (.int .i64 (runE m zs)) ∧ w = w' := by
  have H := Lib.hid h
  have HZ := Lib.hid hz
  obtain ⟨⟨c0, c1, _, _, _⟩, _⟩ := h.cells
  have HE : Hid (runE m zs = if m.up = false then 5 else knownE m.size zs) := Lib.hid rfl
  by_cases hu : m.up = true
  · have hs : (stOf m != 0) = false := by rw [stOf_up hu]; rfl
    have HE : Hid (runE m zs = knownE m.size zs) := Lib.hid (by rw [HE.out, if_neg (by rw [hu]; simp)])
    clear h hz hu
    generalize stOf m = st at *
    go_enter Tryz.func98, Tryz.ntmps98
    go_wp2_with fail
    refine (made_yes d _ c0).mono ?_
    rintro e w1 ⟨rfl, rfl⟩
    go_wp2_with fail
    refine (known_of H.out A k c zs HZ.out).mono ?_
    rintro e w1 ⟨rfl, rfl⟩
    go_wp2_with fail
    go_ret
    exact ⟨by rw [HE.out]; rfl, rfl⟩
  · have hu' : m.up = false := by simpa using hu
    have hs : (stOf m != 0) = true := by simpa using stOf_not hu'
    have HE : Hid (runE m zs = 5) := Lib.hid (by rw [HE.out, if_pos hu'])
    clear h hz hu hu'
    generalize stOf m = st at *
    go_enter Tryz.func98, Tryz.ntmps98
    go_wp2_with fail
    refine (made_yes d _ c0).mono ?_
    rintro e w1 ⟨rfl, rfl⟩
    go_wp2_with fail
    go_ret
    exact ⟨by rw [HE.out]; rfl, rfl⟩

set_option maxRecDepth 100000 in
set_option maxHeartbeats 800000 in
theorem size_of {w : World} {d g : Nat} {pv : Value} {m : DM} (h : PD w d g pv m) :
    Calls Tryz.prog 47 #[.pointer (some ⟨d, 0, none⟩)] w fun e w' => e = .returned (.int .i64 (m.size : Nat)) ∧ w = w' := by
  obtain ⟨⟨c0, _, _, c3, _⟩, _⟩ := h.cells
  clear h
  generalize m.size = n at *
  go_enter Tryz.func47, Tryz.ntmps47
  go_wp2_with fail
  refine (made_yes d _ c0).mono ?_
  rintro e w1 ⟨rfl, rfl⟩
  go_wp2_with fail
  go_ret
  exact ⟨rfl, rfl⟩
/-- The slice of the pending writes. -/
theorem PD.pv_form {w : World} {d g : Nat} {pv : Value} {m : DM} (h : PD w d g pv m) : ∃ A c, pv = .slice A m.waits.length c ∧ m.waits.length ≤ c ∧ c ≤ 9223372036854775807 := by
  rcases h.pen.2 with ⟨e, h0⟩ | ⟨g, cap, cur, rfl, _, _, h1, h2, _⟩
  · exact ⟨none, 0, by rw [h0]; exact e, by omega, by omega⟩
  · unfold maxLen at h2
    exact ⟨_, cap, rfl, h1, h2⟩
set_option maxRecDepth 100000 in
set_option maxHeartbeats 800000 in
theorem waits_of {w : World} {d g : Nat} {pv : Value} {m : DM} (h : PD w d g pv m) :
    Calls Tryz.prog 36 #[.pointer (some ⟨d, 0, none⟩)] w fun e w' => e = .returned (.int .i64 (m.waits.length : Nat)) ∧ w = w' := by
  obtain ⟨⟨c0, _, _, _, c4⟩, _⟩ := h.cells
  obtain ⟨A, c, rfl, _, _⟩ := h.pv_form
  clear h
  generalize m.waits.length = n at *
  go_enter Tryz.func36, Tryz.ntmps36
  go_wp2_with fail
  refine (made_yes d _ c0).mono ?_
  rintro e w1 ⟨rfl, rfl⟩
  go_wp2_with fail
  go_ret
  exact ⟨rfl, rfl⟩
set_option maxRecDepth 100000 in
set_option maxHeartbeats 800000 in
theorem up_of {w : World} {d g : Nat} {pv : Value} {m : DM} (h : PD w d g pv m) :
    Calls Tryz.prog 119 #[.pointer (some ⟨d, 0, none⟩)] w fun e w' => e = .returned (.bool m.up) ∧ w = w' := by
  have hr := running_of h none 0 0 [] (ZsAt.nil_ w)
  have HR := Lib.hid hr
  have HE : Hid (decide (runE m [] = 0) = m.up) := Lib.hid (by
    unfold runE knownE
    cases m.up <;> simp)
  clear h hr
  go_enter Tryz.func119, Tryz.ntmps119
  go_wp2_with fail
  refine HR.out.mono ?_
  rintro e w1 ⟨rfl, rfl⟩
  generalize runE m [] = z at *
  go_wp2_with fail
  go_ret
  exact ⟨by rw [← HE.out]; by_cases hz : z = 0 <;> simp [hz], rfl⟩

/-- At a disk that nobody made. -/
theorem known_no (p : Option Addr) (A : Option Addr) (k c : Nat) (w : World) (h : Unmade w p) :
    Calls Tryz.prog 81 #[.pointer p, .slice A k c] w fun e w' => e = .returned (.int .i64 1) ∧ w = w' := by
  have H := Lib.hid h
  clear h
  go_enter Tryz.func81, Tryz.ntmps81
  go_wp2_with fail
  refine (made_no p _ H.out).mono ?_
  rintro e w1 ⟨rfl, rfl⟩
  go_wp2_with fail
  go_ret
  exact ⟨rfl, rfl⟩
theorem running_no (p : Option Addr) (A : Option Addr) (k c : Nat) (w : World) (h : Unmade w p) :
    Calls Tryz.prog 98 #[.pointer p, .slice A k c] w fun e w' => e = .returned (.int .i64 1) ∧ w = w' := by
  have H := Lib.hid h
  clear h
  go_enter Tryz.func98, Tryz.ntmps98
  go_wp2_with fail
  refine (made_no p _ H.out).mono ?_
  rintro e w1 ⟨rfl, rfl⟩
  go_wp2_with fail
  refine (known_no p _ _ _ _ H.out).mono ?_
  rintro e w1 ⟨rfl, rfl⟩
  go_wp2_with fail
  go_ret
  exact ⟨rfl, rfl⟩
theorem size_no (p : Option Addr) (w : World) (h : Unmade w p) : Calls Tryz.prog 47 #[.pointer p] w fun e w' => e = .returned (.int .i64 0) ∧ w = w' := by
  have H := Lib.hid h
  clear h
  go_enter Tryz.func47, Tryz.ntmps47
  go_wp2_with fail
  refine (made_no p _ H.out).mono ?_
  rintro e w1 ⟨rfl, rfl⟩
  go_wp2_with fail
  go_ret
  exact ⟨rfl, rfl⟩
theorem waits_no (p : Option Addr) (w : World) (h : Unmade w p) : Calls Tryz.prog 36 #[.pointer p] w fun e w' => e = .returned (.int .i64 0) ∧ w = w' := by
  have H := Lib.hid h
  clear h
  go_enter Tryz.func36, Tryz.ntmps36
  go_wp2_with fail
  refine (made_no p _ H.out).mono ?_
  rintro e w1 ⟨rfl, rfl⟩
  go_wp2_with fail
  go_ret
  exact ⟨rfl, rfl⟩
theorem up_no (p : Option Addr) (w : World) (h : Unmade w p) : Calls Tryz.prog 119 #[.pointer p] w fun e w' => e = .returned (.bool false) ∧ w = w' := by
  have H := Lib.hid h
  clear h
  go_enter Tryz.func119, Tryz.ntmps119
  go_wp2_with fail
  refine (running_no p _ _ _ _ H.out).mono ?_
  rintro e w1 ⟨rfl, rfl⟩
  go_wp2_with fail
  go_ret
  exact ⟨rfl, rfl⟩
end Go.Proofs.YtlikhmhomkiadaaGreatDoor

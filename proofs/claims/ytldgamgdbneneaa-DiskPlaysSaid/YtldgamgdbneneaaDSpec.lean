/-
  Plain facts on disks, without any program: what a disk holds, what each act does to it.
-/
import Derived.Test.YtldgamgdbneneaaFlip
namespace Go.Proofs.Ytldgamgdbneneaa
set_option maxRecDepth 100000

/-- A disk: what its sectors hold at rest, and are meant to; which are lost; the pending writes; down, dead; how many writes and flushes are left (-1: without end). -/
structure DM where
  rest : List (List Nat)
  meant : List (List Nat)
  lost : List Bool
  waits : List (Nat × List Nat) := []
  down : Bool := false
  dead : Bool := false
  power : Int := -1
def z64 : List Nat := List.replicate 64 0
def DM.new (n : Nat) : DM := { rest := List.replicate n z64, meant := List.replicate n z64, lost := List.replicate n false }
def DM.size (m : DM) : Nat := m.rest.length
def DM.has (m : DM) (s : Int) : Bool := decide (0 ≤ s) && decide (s < m.size)
def DM.up (m : DM) : Bool := !(m.down || m.dead)
/-- A write is carried out; writes are. -/
def DM.come (m : DM) (x : Nat × List Nat) : DM := { m with rest := m.rest.set x.1 x.2, meant := m.meant.set x.1 x.2, lost := m.lost.set x.1 false }
def DM.comes (m : DM) (l : List (Nat × List Nat)) : DM := l.foldl DM.come m
def lessP (p : Int) : Int := if 0 < p then p - 1 else p
/-- Those whose number is kept. -/
def kept : List (Nat × List Nat) → List Bool → List (Nat × List Nat)
  | x :: l, true :: k => x :: kept l k
  | _ :: l, false :: k => kept l k
  | _, _ => []
def DM.write (m : DM) (s : Int) (b : List Nat) : Int × DM :=
  if m.up = false then (5, m) else if m.has s = false ∨ b.length ≠ 64 then (2, m) else if m.power = 0 then (5, { m with dead := true }) else (0, { m with power := lessP m.power, waits := m.waits ++ [(s.toNat, b)] })
def DM.flush (m : DM) : Int × DM :=
  if m.up = false then (5, m) else if m.power = 0 then (5, { m with dead := true }) else (0, { ({ m with power := lessP m.power } : DM).comes m.waits with waits := [] })
def DM.setPower (m : DM) (n : Int) : Int × DM := if m.up = false then (5, m) else if n < 0 then (2, m) else (0, { m with power := n })
def DM.crash (m : DM) (k : List Bool) : Int × DM := if m.down = true then (5, m) else (0, { m.comes (kept m.waits k) with waits := [], down := true })
def DM.start (m : DM) : Int × DM := if m.down = false then (2, m) else (0, { m with down := false, dead := false, power := -1 })
def DM.flip (m : DM) (s bit : Int) : Int × DM := if m.has s = false ∨ bit < 0 then (2, m) else (0, { m with rest := m.rest.set s.toNat (flipB (m.rest.getD s.toNat []) (bit.toNat % 512)) })
def DM.lose (m : DM) (s : Int) : Int × DM := if m.has s = false then (2, m) else (0, { m with lost := m.lost.set s.toNat true })
def DM.stray (m : DM) (a b : Int) : Int × DM := if m.has a = false ∨ m.has b = false then (2, m) else (0, { m with rest := m.rest.set b.toNat (m.rest.getD a.toNat []), lost := m.lost.set b.toNat (m.lost.getD a.toNat false) })
/-- The last pending write of a sector. -/
def lastW : List (Nat × List Nat) → Nat → Option (List Nat)
  | [], _ => none
  | x :: l, s => (lastW l s).or (if x.1 = s then some x.2 else none)
def DM.read (m : DM) (s : Int) : List Nat × Int :=
  if m.up = false then ([], 5) else if m.has s = false then ([], 2) else match lastW m.waits s.toNat with
    | some b => (b, 0)
    | none => if m.lost.getD s.toNat false = true then ([], 50) else (m.rest.getD s.toNat [], 0)
def DM.at_ (m : DM) (s : Int) : List Nat × Bool × Int := if m.has s = false then ([], false, 2) else if m.lost.getD s.toNat false = true then ([], true, 0) else (m.rest.getD s.toNat [], false, 0)
def DM.means (m : DM) (s : Int) : List Nat × Int := if m.has s = false then ([], 2) else (m.meant.getD s.toNat [], 0)

/-- A disk that may be. -/
def Sect (b : List Nat) : Prop := b.length = 64 ∧ ∀ x ∈ b, x < 256
structure DM.Ok (m : DM) : Prop where
  meant : m.meant.length = m.size
  lost : m.lost.length = m.size
  rests : ∀ b ∈ m.rest, Sect b
  means : ∀ b ∈ m.meant, Sect b
  waits : ∀ x ∈ m.waits, x.1 < m.size ∧ Sect x.2
  power : -1 ≤ m.power
theorem z64_sect : Sect z64 := ⟨by simp [z64], fun x hx => by rw [z64, List.mem_replicate] at hx; omega⟩
theorem DM.new_ok (n : Nat) : (DM.new n).Ok :=
  ⟨by simp [new, size], by simp [new, size], fun b hb => by rw [(List.mem_replicate.1 hb).2]; exact z64_sect, fun b hb => by rw [(List.mem_replicate.1 hb).2]; exact z64_sect, fun x hx => (by cases hx), by show (-1 : Int) ≤ -1; omega⟩
theorem mem_set_of {α : Type} {P : α → Prop} {l : List α} {i : Nat} {x : α} (hl : ∀ y ∈ l, P y) (hx : P x) : ∀ y ∈ l.set i x, P y := fun y hy => by
  rcases List.mem_or_eq_of_mem_set hy with h | h
  · exact hl y h
  · rw [h]; exact hx
theorem DM.come_size (m : DM) (x : Nat × List Nat) : (m.come x).size = m.size := by simp [come, size]
theorem DM.come_ok {m : DM} (h : m.Ok) {x : Nat × List Nat} (hx : Sect x.2) : (m.come x).Ok :=
  ⟨by simp [come, size]; exact h.meant, by simp [come, size]; exact h.lost, mem_set_of h.rests hx, mem_set_of h.means hx, by rw [come_size]; exact h.waits, h.power⟩
theorem DM.comes_size (l : List (Nat × List Nat)) (m : DM) : (m.comes l).size = m.size := by
  induction l generalizing m with
  | nil => rfl
  | cons x l ih =>
    show ((m.come x).comes l).size = _
    rw [ih, come_size]
theorem DM.comes_ok (l : List (Nat × List Nat)) : ∀ {m : DM}, m.Ok → (∀ x ∈ l, Sect x.2) → (m.comes l).Ok := by
  induction l with
  | nil => intro m h _; exact h
  | cons x l ih =>
    intro m h hl
    exact ih (come_ok h (hl x (by simp))) (fun y hy => hl y (by simp [hy]))
theorem DM.comes_waits (l : List (Nat × List Nat)) (m : DM) : (m.comes l).waits = m.waits ∧ (m.comes l).down = m.down ∧ (m.comes l).dead = m.dead ∧ (m.comes l).power = m.power := by
  induction l generalizing m with
  | nil => exact ⟨rfl, rfl, rfl, rfl⟩
  | cons x l ih => exact ih (m.come x)
theorem kept_mem : ∀ {l : List (Nat × List Nat)} {k : List Bool} {x : Nat × List Nat}, x ∈ kept l k → x ∈ l
  | [], _, x, h => by simp [kept] at h
  | y :: l, [], x, h => by simp [kept] at h
  | y :: l, true :: k, x, h => by
    simp only [kept, List.mem_cons] at h
    rcases h with rfl | h
    · simp
    · exact List.mem_cons_of_mem _ (kept_mem h)
  | y :: l, false :: k, x, h => by
    simp only [kept] at h
    exact List.mem_cons_of_mem _ (kept_mem h)
theorem DM.clear_ok {m : DM} (h : m.Ok) : ({ m with waits := [] } : DM).Ok := ⟨h.meant, h.lost, h.rests, h.means, fun x hx => (by cases hx), h.power⟩
theorem DM.has_iff {m : DM} {s : Int} : m.has s = true ↔ 0 ≤ s ∧ s < m.size := by simp [has]
theorem DM.has_lt {m : DM} {s : Int} (h : ¬ m.has s = false) : s.toNat < m.rest.length := by
  have h' : m.has s = true := by simpa using h
  have := has_iff.1 h'
  unfold size at this
  omega
theorem DM.flip_ok {m : DM} (h : m.Ok) (s bit : Int) : (m.flip s bit).2.Ok := by
  unfold flip
  split
  · exact h
  · have hs : Sect (flipB (m.rest.getD s.toNat []) (bit.toNat % 512)) := by
      rename_i hh
      have hlt := has_lt fun h => hh (.inl h)
      have hm := h.rests _ (List.getElem_mem hlt)
      rw [List.getD_eq_getElem?_getD, List.getElem?_eq_getElem hlt, Option.getD_some]
      exact ⟨by rw [flipB_length]; exact hm.1, flipB_lt _ hm.2⟩
    exact ⟨by simp [size]; exact h.meant, by simp [size]; exact h.lost, mem_set_of h.rests hs, h.means, by simpa [size] using h.waits, h.power⟩
theorem DM.lose_ok {m : DM} (h : m.Ok) (s : Int) : (m.lose s).2.Ok := by
  unfold lose
  split
  · exact h
  · exact ⟨h.meant, by simp [size]; exact h.lost, h.rests, h.means, h.waits, h.power⟩
theorem DM.stray_ok {m : DM} (h : m.Ok) (a b : Int) : (m.stray a b).2.Ok := by
  unfold stray
  split
  · exact h
  · have hs : Sect (m.rest.getD a.toNat []) := by
      rename_i hh
      have hlt := has_lt fun h => hh (.inl h)
      rw [List.getD_eq_getElem?_getD, List.getElem?_eq_getElem hlt, Option.getD_some]
      exact h.rests _ (List.getElem_mem hlt)
    exact ⟨by simp [size]; exact h.meant, by simp [size]; exact h.lost, mem_set_of h.rests hs, h.means, by simpa [size] using h.waits, h.power⟩
theorem DM.setPower_ok {m : DM} (h : m.Ok) (n : Int) : (m.setPower n).2.Ok := by
  unfold setPower
  split
  · exact h
  · split
    · exact h
    · exact ⟨h.meant, h.lost, h.rests, h.means, h.waits, by show (-1 : Int) ≤ n; omega⟩
theorem DM.start_ok {m : DM} (h : m.Ok) : m.start.2.Ok := by
  unfold start
  split
  · exact h
  · exact ⟨h.meant, h.lost, h.rests, h.means, h.waits, Int.le_refl _⟩
theorem lessP_le {p : Int} (h : -1 ≤ p) : -1 ≤ lessP p := by unfold lessP; split <;> omega
theorem DM.write_ok {m : DM} (h : m.Ok) (s : Int) {b : List Nat} (hb : ∀ x ∈ b, x < 256) : (m.write s b).2.Ok := by
  unfold write
  split
  · exact h
  · split
    · exact h
    · split
      · exact ⟨h.meant, h.lost, h.rests, h.means, h.waits, h.power⟩
      · rename_i hh _
        refine ⟨h.meant, h.lost, h.rests, h.means, fun x hx => ?_, lessP_le h.power⟩
        rcases List.mem_append.1 hx with hx | hx
        · exact h.waits x hx
        · simp only [List.mem_singleton] at hx
          subst hx
          exact ⟨has_lt fun h => hh (.inl h), Classical.not_not.1 fun h => hh (.inr h), hb⟩
theorem DM.flush_ok {m : DM} (h : m.Ok) : m.flush.2.Ok := by
  unfold flush
  split
  · exact h
  · split
    · exact ⟨h.meant, h.lost, h.rests, h.means, h.waits, h.power⟩
    · exact clear_ok (comes_ok _ (m := { m with power := lessP m.power }) ⟨h.meant, h.lost, h.rests, h.means, h.waits, lessP_le h.power⟩ fun x hx => (h.waits x hx).2)
theorem DM.crash_ok {m : DM} (h : m.Ok) (k : List Bool) : (m.crash k).2.Ok := by
  unfold crash
  split
  · exact h
  · have hc := comes_ok (kept m.waits k) h fun x hx => (h.waits x (kept_mem hx)).2
    exact ⟨hc.meant, hc.lost, hc.rests, hc.means, fun x hx => (by cases hx), hc.power⟩

/-- What the statements' acts do: by the number of the kind, modulo 9; what they write. -/
def actB (num : Int) (bytes : List Nat) : List Nat := if bytes = [] then List.replicate 64 (num % 256).toNat else bytes
def DM.act (m : DM) (kind : Nat) (sec num : Int) (bytes : List Nat) (keep : List Bool) : Int × DM :=
  match kind % 9 with
  | 0 => m.flush
  | 1 => m.crash keep
  | 2 => m.start
  | 3 => m.flip sec num
  | 4 => m.lose sec
  | 5 => m.stray sec num
  | 8 => m.setPower num
  | _ => m.write sec (actB num bytes)
theorem actB_lt {num : Int} {bytes : List Nat} (hb : ∀ x ∈ bytes, x < 256) : ∀ x ∈ actB num bytes, x < 256 := by
  unfold actB
  split
  · intro x hx
    rw [(List.mem_replicate.1 hx).2]
    omega
  · exact hb
theorem DM.act_ok {m : DM} (h : m.Ok) (kind : Nat) (sec num : Int) {bytes : List Nat} (hb : ∀ x ∈ bytes, x < 256) (keep : List Bool) : (m.act kind sec num bytes keep).2.Ok := by
  unfold act
  split
  · exact flush_ok h
  · exact crash_ok h keep
  · exact start_ok h
  · exact flip_ok h sec num
  · exact lose_ok h sec
  · exact stray_ok h sec num
  · exact setPower_ok h num
  · exact write_ok h sec (actB_lt hb)
theorem DM.act_size {m : DM} (kind : Nat) (sec num : Int) (bytes : List Nat) (keep : List Bool) : (m.act kind sec num bytes keep).2.size = m.size := by
  unfold act
  split
  · unfold flush; split; · rfl
    split
    · rfl
    · show (DM.comes _ _).size = _
      rw [comes_size]; rfl
  · unfold crash; split; · rfl
    show (DM.comes _ _).size = _
    rw [comes_size]
  · unfold start; split <;> rfl
  · unfold flip; split <;> simp [size]
  · unfold lose; split <;> rfl
  · unfold stray; split <;> simp [size]
  · unfold setPower; split; · rfl
    split <;> rfl
  · unfold write; split; · rfl
    split; · rfl
    split <;> rfl
end Go.Proofs.Ytldgamgdbneneaa

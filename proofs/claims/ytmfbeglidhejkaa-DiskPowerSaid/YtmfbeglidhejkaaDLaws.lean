/-
  Plain facts on disks that the statements' walks come to: what was flushed stays; what comes through a crash; faults apart.
-/
import Derived.Test.YtmfbeglidhejkaaDFacts
namespace Go.Proofs.Ytmfbeglidhejkaa

/-- A disk of four sectors without faults, of which one holds b at rest, and no write of it is pending. -/
structure FInv (m : DM) (s : Nat) (b : List Nat) : Prop where
  ok : m.Ok
  four : m.size = 4
  held : m.rest.getD s [] = b
  same : ∀ i, m.rest.getD i [] = m.meant.getD i []
  none_ : ∀ i, m.lost.getD i false = false
  waits : ∀ x ∈ m.waits, x.1 ≠ s
theorem FInv.of_eq {m m' : DM} {s : Nat} {b : List Nat} (h : FInv m s b) (hok : m'.Ok) (h1 : m'.rest = m.rest) (h2 : m'.meant = m.meant) (h3 : m'.lost = m.lost) (h4 : ∀ x ∈ m'.waits, x.1 ≠ s) : FInv m' s b :=
  ⟨hok, by unfold DM.size; rw [h1]; exact h.four, by rw [h1]; exact h.held, fun i => by rw [h1, h2]; exact h.same i, fun i => by rw [h3]; exact h.none_ i, h4⟩
theorem FInv.comes {m : DM} {s : Nat} {b : List Nat} (h : FInv m s b) {l : List (Nat × List Nat)} (hl : ∀ x ∈ l, x ∈ m.waits) : FInv (m.comes l) s b := by
  have hlt : ∀ x ∈ l, x.1 < m.size := fun x hx => (h.ok.waits x (hl x hx)).1
  have g := comes_get l m h.ok hlt
  refine ⟨DM.comes_ok l h.ok fun x hx => (h.ok.waits x (hl x hx)).2, by rw [DM.comes_size]; exact h.four, ?_, fun i => ?_, fun i => ?_, ?_⟩
  · rw [(g s).1, lastW_none fun x hx => h.waits x (hl x hx)]
    exact h.held
  · rw [(g i).1, (g i).2.1, h.same i]
  · rw [(g i).2.2, h.none_ i]
    split <;> rfl
  · rw [(DM.comes_waits l m).1]
    exact h.waits
theorem FInv.act {m : DM} {s : Nat} {b : List Nat} (h : FInv m s b) (kind : Nat) (sec num : Int) {bytes : List Nat} (hb : ∀ x ∈ bytes, x < 256) (keep : List Bool)
    (hk : ¬ (3 ≤ kind % 9 ∧ kind % 9 ≤ 5)) (hw : kind % 9 = 6 ∨ kind % 9 = 7 → sec ≠ (s : Int)) : FInv (m.act kind sec num bytes keep).2 s b := by
  have hok := DM.act_ok h.ok kind sec num hb keep
  have wr : kind % 9 = 6 ∨ kind % 9 = 7 → FInv (m.write sec (actB num bytes)).2 s b := fun h67 => by
    have hne := hw h67
    have hok := DM.write_ok h.ok sec (actB_lt (num := num) hb)
    revert hok
    unfold DM.write
    split
    · intro _; exact h
    · split
      · intro _; exact h
      · split
        · intro hok; exact h.of_eq hok rfl rfl rfl h.waits
        · rename_i hh _
          intro hok
          refine h.of_eq hok rfl rfl rfl fun x hx => ?_
          rcases List.mem_append.1 hx with hx | hx
          · exact h.waits x hx
          · simp only [List.mem_singleton] at hx
            subst hx
            have h0 : m.has sec = true := by
              by_cases h1 : m.has sec = true
              · exact h1
              · exact absurd (.inl (by simpa using h1)) hh
            have := DM.has_iff.1 h0
            show sec.toNat ≠ s
            omega
  have h9 : kind % 9 < 9 := Nat.mod_lt _ (by omega)
  have hcase : kind % 9 = 0 ∨ kind % 9 = 1 ∨ kind % 9 = 2 ∨ kind % 9 = 6 ∨ kind % 9 = 7 ∨ kind % 9 = 8 := by omega
  unfold DM.act at hok ⊢
  rcases hcase with e | e | e | e | e | e
  · simp only [e] at hok ⊢
    revert hok
    unfold DM.flush
    split
    · intro _; exact h
    · split
      · intro hok; exact h.of_eq hok rfl rfl rfl h.waits
      · intro hok
        have h2 : FInv { m with power := lessP m.power } s b := h.of_eq ⟨h.ok.meant, h.ok.lost, h.ok.rests, h.ok.means, h.ok.waits, lessP_le h.ok.power⟩ rfl rfl rfl h.waits
        have h3 := h2.comes (l := m.waits) fun x hx => hx
        exact h3.of_eq hok rfl rfl rfl (fun x hx => by cases hx)
  · simp only [e] at hok ⊢
    revert hok
    unfold DM.crash
    split
    · intro _; exact h
    · intro hok
      have h3 := h.comes (l := kept m.waits keep) fun x hx => kept_mem hx
      exact h3.of_eq hok rfl rfl rfl (fun x hx => by cases hx)
  · simp only [e] at hok ⊢
    revert hok
    unfold DM.start
    split
    · intro _; exact h
    · intro hok; exact h.of_eq hok rfl rfl rfl h.waits
  · simp only [e] at hok ⊢
    exact wr (.inl e)
  · simp only [e] at hok ⊢
    exact wr (.inr e)
  · simp only [e] at hok ⊢
    revert hok
    unfold DM.setPower
    split
    · intro _; exact h
    · split
      · intro _; exact h
      · intro hok; exact h.of_eq hok rfl rfl rfl h.waits
theorem FInv.read {m : DM} {s : Nat} {b : List Nat} (h : FInv m s b) (hs : s < 4) (hu : m.up = true) : m.read (s : Int) = (b, 0) := by
  have hh : m.has (s : Int) = true := DM.has_iff.2 ⟨by omega, by rw [h.four]; omega⟩
  unfold DM.read
  rw [if_neg (by rw [hu]; simp), if_neg (by rw [hh]; simp), Int.toNat_natCast, lastW_none h.waits]
  simp only
  rw [h.none_, h.held]
  simp
theorem FInv.at_ {m : DM} {s : Nat} {b : List Nat} (h : FInv m s b) (i : Nat) (hi : i < 4) : m.at_ (i : Int) = (m.rest.getD i [], false, 0) ∧ m.means (i : Int) = (m.rest.getD i [], 0) := by
  have hh : m.has (i : Int) = true := DM.has_iff.2 ⟨by omega, by rw [h.four]; omega⟩
  unfold DM.at_ DM.means
  have hn : ¬ m.has (i : Int) = false := by rw [hh]; simp
  rw [if_neg hn, if_neg hn, Int.toNat_natCast, h.none_ i, ← h.same i]
  exact ⟨rfl, rfl⟩
theorem FInv.start {s : Nat} {b : List Nat} (hs : s < 4) (hb : Sect b) : ((DM.new 4).write (s : Int) b).1 = 0 ∧ ((DM.new 4).write (s : Int) b).2.flush.1 = 0 ∧ FInv ((DM.new 4).write (s : Int) b).2.flush.2 s b := by
  have hh : (DM.new 4).has (s : Int) = true := DM.has_iff.2 ⟨by omega, by show (s : Int) < ((List.replicate 4 z64).length : Nat); simp; omega⟩
  have hw : (DM.new 4).write (s : Int) b = (0, { DM.new 4 with waits := [(s, b)] }) := by
    unfold DM.write
    rw [if_neg (by decide), if_neg (by rw [hh]; simp [hb.1]), if_neg (by decide)]
    rfl
  have hok : ({ DM.new 4 with waits := [(s, b)] } : DM).Ok := by
    have := DM.write_ok (DM.new_ok 4) (s : Int) hb.2
    rw [hw] at this
    exact this
  have hf : ({ DM.new 4 with waits := [(s, b)] } : DM).flush = (0, { ({ DM.new 4 with waits := [(s, b)] } : DM).comes [(s, b)] with waits := [] }) := by
    rfl
  rw [hw]
  refine ⟨rfl, by rw [hf], ?_⟩
  have hfo := DM.flush_ok hok
  show FInv (({ DM.new 4 with waits := [(s, b)] } : DM).flush).2 s b
  rw [hf] at hfo ⊢
  have g := comes_get [(s, b)] { DM.new 4 with waits := [(s, b)] } hok (fun x hx => by simp only [List.mem_singleton] at hx; subst hx; show s < (List.replicate 4 z64).length; simpa using hs)
  have hlw : ∀ i, lastW [(s, b)] i = if s = i then some b else none := fun i => rfl
  refine ⟨hfo, ?_, ?_, fun i => ?_, fun i => ?_, fun x hx => by cases hx⟩
  · show (DM.comes _ _).size = 4
    rw [DM.comes_size]; rfl
  · show (DM.comes _ _).rest.getD s [] = b
    rw [(g s).1, hlw, if_pos rfl]; rfl
  · show (DM.comes _ _).rest.getD i [] = (DM.comes _ _).meant.getD i []
    rw [(g i).1, (g i).2.1]; rfl
  · show (DM.comes _ _).lost.getD i false = false
    rw [(g i).2.2]
    split
    · rfl
    · show (List.replicate 4 false).getD i false = false
      rw [List.getD_eq_getElem?_getD, List.getElem?_replicate]
      split <;> rfl
end Go.Proofs.Ytmfbeglidhejkaa

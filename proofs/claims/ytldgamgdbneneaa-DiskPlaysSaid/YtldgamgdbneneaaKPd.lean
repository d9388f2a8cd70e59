/-
  The contracts of the program's disk in one form: what it answers, that it is the next disk in plain words, and that no block but its own was written.
-/
import Derived.Test.YtldgamgdbneneaaKRead
import Derived.Test.YtldgamgdbneneaaKWrite
import Derived.Test.YtldgamgdbneneaaKFlip
import Derived.Test.YtldgamgdbneneaaKCrash
import Derived.Test.YtldgamgdbneneaaKNew
namespace Go.Proofs.Ytldgamgdbneneaa
set_option maxRecDepth 100000
open Go Go.RowKit

/-- The blocks of a disk behind a call. -/
def grow (F : Nat → Prop) (w w' : World) (k : Nat) : Prop := F k ∨ (w.heap.size ≤ k ∧ k < w'.heap.size)
/-- A call at a disk that answers E and leaves the disk m'. -/
def Outc (d : Nat) (F : Nat → Prop) (w : World) (E : Int) (m' : DM) (e : Ending) (w' : World) : Prop := e = .returned (.int .i64 E) ∧ PDisk w' d (grow F w w') m' ∧ Mod F w w'
theorem PDisk.step {w w' : World} {d g : Nat} {pv pv' : Value} {F : Nat → Prop} {m' : DM} (h2 : ∀ k, Fp d g pv k → F k) (h3 : ∀ k, F k → k < w.heap.size) (hp : PD w' d g pv' m') (hm : Mod (Fp d g pv) w w')
    (hb : pv'.ownBlock = pv.ownBlock ∨ pv'.ownBlock = none ∨ ∃ i, pv'.ownBlock = some i ∧ w.heap.size ≤ i) : PDisk w' d (grow F w w') m' ∧ Mod F w w' := by
  refine ⟨⟨g, pv', hp, fun k hk => ?_, fun k hk => ?_⟩, hm.mono h2⟩
  · rcases hk with rfl | rfl | hk
    · exact .inl (h2 _ (.inl rfl))
    · exact .inl (h2 _ (.inr (.inl rfl)))
    · rcases hb with e | e | ⟨i, e, hi⟩
      · exact .inl (h2 _ (.inr (.inr (by rw [← e]; exact hk))))
      · rw [e] at hk; cases hk
      · rw [e] at hk
        injection hk with hk
        subst hk
        exact .inr ⟨hi, (hp.pen.lt i e).2⟩
  · rcases hk with hk | hk
    · exact Nat.lt_of_lt_of_le (h3 k hk) hm.size
    · exact hk.2

section
variable {w : World} {d : Nat} {F : Nat → Prop} {m : DM}
theorem flush_pd (h : PDisk w d F m) : Calls Try.prog 14 #[.pointer (some ⟨d, 0, none⟩)] w (Outc d F w m.flush.1 m.flush.2) := by
  obtain ⟨g, pv, hp, h2, h3⟩ := h
  refine (flush_of hp).mono fun e w' ⟨pv', h1, h4, h5, h6⟩ => ?_
  have := PDisk.step h2 h3 h4 (h6.mono fun i hi => hi.elim .inl fun h => .inr (.inl h)) (by
    rcases h5 with rfl | rfl
    · exact .inl rfl
    · exact .inr (.inl rfl))
  exact ⟨h1, this.1, this.2⟩
theorem crash_pd (h : PDisk w d F m) (kA : Option Addr) (kn kc : Nat) (kl : List Bool) (hk : Vs w w.heap.size kA kn kc (kl.map .bool)) (ho : 0 < kn → Off F kA) :
    Calls Try.prog 15 #[.pointer (some ⟨d, 0, none⟩), .slice kA kn kc] w (Outc d F w (m.crash kl).1 (m.crash kl).2) := by
  obtain ⟨g, pv, hp, h2, h3⟩ := h
  refine (crash_of hp kA kn kc kl hk fun hn p hA hi => ho hn p hA (h2 _ (hi.elim .inl fun h => .inr (.inl h)))).mono fun e w' ⟨pv', h1, h4, h5, h6⟩ => ?_
  have := PDisk.step h2 h3 h4 (h6.mono fun i hi => hi.elim .inl fun h => .inr (.inl h)) (by
    rcases h5 with rfl | rfl
    · exact .inl rfl
    · exact .inr (.inl rfl))
  exact ⟨h1, this.1, this.2⟩
theorem start_pd (h : PDisk w d F m) : Calls Try.prog 16 #[.pointer (some ⟨d, 0, none⟩)] w (Outc d F w m.start.1 m.start.2) := by
  obtain ⟨g, pv, hp, h2, h3⟩ := h
  refine (start_of hp).mono fun e w' ⟨h1, h4, h6⟩ => ?_
  have := PDisk.step h2 h3 h4 (h6.mono fun i hi => .inl hi) (.inl rfl)
  exact ⟨h1, this.1, this.2⟩
theorem power_pd (h : PDisk w d F m) (n : Int) (hn : n ≤ 9223372036854775807) : Calls Try.prog 20 #[.pointer (some ⟨d, 0, none⟩), .int .i64 n] w (Outc d F w (m.setPower n).1 (m.setPower n).2) := by
  obtain ⟨g, pv, hp, h2, h3⟩ := h
  refine (power_of hp n hn).mono fun e w' ⟨h1, h4, h6⟩ => ?_
  have := PDisk.step h2 h3 h4 (h6.mono fun i hi => .inl hi) (.inl rfl)
  exact ⟨h1, this.1, this.2⟩
theorem lose_pd (h : PDisk w d F m) (s : Int) : Calls Try.prog 18 #[.pointer (some ⟨d, 0, none⟩), .int .i64 s] w (Outc d F w (m.lose s).1 (m.lose s).2) := by
  obtain ⟨g, pv, hp, h2, h3⟩ := h
  refine (lose_of hp s).mono fun e w' ⟨h1, h4, h6⟩ => ?_
  have := PDisk.step h2 h3 h4 (h6.mono fun i hi => .inr (.inl hi)) (.inl rfl)
  exact ⟨h1, this.1, this.2⟩
theorem flip_pd (h : PDisk w d F m) (s b : Int) (hb : b ≤ 9223372036854775807) : Calls Try.prog 17 #[.pointer (some ⟨d, 0, none⟩), .int .i64 s, .int .i64 b] w (Outc d F w (m.flip s b).1 (m.flip s b).2) := by
  obtain ⟨g, pv, hp, h2, h3⟩ := h
  refine (flip_of hp s b hb).mono fun e w' ⟨h1, h4, h6⟩ => ?_
  have := PDisk.step h2 h3 h4 (h6.mono fun i hi => .inr (.inl hi)) (.inl rfl)
  exact ⟨h1, this.1, this.2⟩
theorem stray_pd (h : PDisk w d F m) (a b : Int) : Calls Try.prog 19 #[.pointer (some ⟨d, 0, none⟩), .int .i64 a, .int .i64 b] w (Outc d F w (m.stray a b).1 (m.stray a b).2) := by
  obtain ⟨g, pv, hp, h2, h3⟩ := h
  refine (stray_of hp a b).mono fun e w' ⟨h1, h4, h6⟩ => ?_
  have := PDisk.step h2 h3 h4 (h6.mono fun i hi => .inr (.inl hi)) (.inl rfl)
  exact ⟨h1, this.1, this.2⟩
theorem write_pd (h : PDisk w d F m) (s : Int) (A : Option Addr) (n c : Nat) (b : List Nat) (hb : By w A n c b) (ho : Off F A) (hfew : m.waits.length ≤ 1000000) :
    Calls Try.prog 22 #[.pointer (some ⟨d, 0, none⟩), .int .i64 s, .slice A n c] w (Outc d F w (m.write s b).1 (m.write s b).2) := by
  obtain ⟨g, pv, hp, h2, h3⟩ := h
  refine (write_of hp s A n c b hb (fun p hA hi => ho p hA (h2 _ (.inl hi))) hfew).mono fun e w' ⟨pv', h1, h4, h5, h6⟩ => ?_
  have := PDisk.step h2 h3 h4 h6 (h5.imp id .inr)
  exact ⟨h1, this.1, this.2⟩
/-- What is asked of a disk: it is told in new memory, and nothing is written. -/
theorem read_pd (h : PDisk w d F m) (s : Int) (hfew : m.waits.length ≤ 1000000) : Calls Try.prog 32 #[.pointer (some ⟨d, 0, none⟩), .int .i64 s] w fun e w' => ∃ A n, e = .returned (.tuple #[.slice A n n, .int .i64 (m.read s).2]) ∧ New w.heap.size w' A n (m.read s).1 ∧ Ext w w' := by
  obtain ⟨g, pv, hp, h2, h3⟩ := h
  exact read_of hp s hfew
theorem rest_pd (h : PDisk w d F m) (s : Int) : Calls Try.prog 34 #[.pointer (some ⟨d, 0, none⟩), .int .i64 s] w fun e w' => ∃ A n, e = .returned (.tuple #[.slice A n n, .bool (m.at_ s).2.1, .int .i64 (m.at_ s).2.2]) ∧ New w.heap.size w' A n (m.at_ s).1 ∧ Ext w w' := by
  obtain ⟨g, pv, hp, h2, h3⟩ := h
  exact rest_of hp s
theorem meant_pd (h : PDisk w d F m) (s : Int) : Calls Try.prog 36 #[.pointer (some ⟨d, 0, none⟩), .int .i64 s] w fun e w' => ∃ A n, e = .returned (.tuple #[.slice A n n, .int .i64 (m.means s).2]) ∧ New w.heap.size w' A n (m.means s).1 ∧ Ext w w' := by
  obtain ⟨g, pv, hp, h2, h3⟩ := h
  exact meant_of hp s
theorem size_pd (h : PDisk w d F m) : Calls Try.prog 7 #[.pointer (some ⟨d, 0, none⟩)] w fun e w' => e = .returned (.int .i64 (m.size : Nat)) ∧ w = w' := by
  obtain ⟨g, pv, hp, h2, h3⟩ := h
  exact size_of hp
theorem waits_pd (h : PDisk w d F m) : Calls Try.prog 10 #[.pointer (some ⟨d, 0, none⟩)] w fun e w' => e = .returned (.int .i64 (m.waits.length : Nat)) ∧ w = w' := by
  obtain ⟨g, pv, hp, h2, h3⟩ := h
  exact waits_of hp
theorem up_pd (h : PDisk w d F m) : Calls Try.prog 11 #[.pointer (some ⟨d, 0, none⟩)] w fun e w' => e = .returned (.bool m.up) ∧ w = w' := by
  obtain ⟨g, pv, hp, h2, h3⟩ := h
  exact up_of hp
end
theorem new_pdk (n : Nat) (w : World) (h1 : 1 ≤ n) (h2 : n ≤ 1024) :
    Calls Try.prog 5 #[.int .i64 (n : Int)] w fun e w' => ∃ d, e = .returned (.tuple #[.pointer (some ⟨d, 0, none⟩), .int .i64 0]) ∧ PDisk w' d (fun k => w.heap.size ≤ k ∧ k < w'.heap.size) (DM.new n) ∧ Ext w w' := by
  refine (new_yes n w h1 h2).mono fun e w' ⟨d, g, he, hp, hd, hg, hx⟩ => ⟨d, he, ⟨g, .slice none 0 0, hp, ?_, fun k hk => hk.2⟩, hx⟩
  intro k hk
  rcases hk with rfl | rfl | hk
  · exact ⟨hd, hp.lt⟩
  · exact ⟨hg, hp.glt⟩
  · cases hk
/-- How many writes wait at most, behind an act. -/
theorem act_waits (m : DM) (kind : Nat) (sec num : Int) (bytes : List Nat) (keep : List Bool) : (m.act kind sec num bytes keep).2.waits.length ≤ m.waits.length + 1 := by
  unfold DM.act
  split
  · unfold DM.flush; split
    · simp
    · split <;> simp
  · unfold DM.crash; split <;> simp
  · unfold DM.start; split <;> simp
  · unfold DM.flip; split <;> simp
  · unfold DM.lose; split <;> simp
  · unfold DM.stray; split <;> simp
  · unfold DM.setPower; split
    · simp
    · split <;> simp
  · unfold DM.write; split
    · simp
    · split
      · simp
      · split <;> simp
end Go.Proofs.Ytldgamgdbneneaa

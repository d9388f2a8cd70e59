/-
  Steps of a disk, one behind the other.
-/
import Derived.Test.YtlikhmhomkiadaaGreatDoorQ12
namespace Go.Proofs.YtlikhmhomkiadaaGreatDoor
set_option maxRecDepth 100000
open Go Go.RowKit

/-- A step of a disk: what it is then, and that no block but its own was written. -/
def Step (d : Nat) (F : Nat → Prop) (w : World) (m' : DM) (w' : World) : Prop := PDisk w' d (grow F w w') m' ∧ Mod F w w'
theorem PDisk.more {w : World} {d : Nat} {F G : Nat → Prop} {m : DM} (h : PDisk w d F m) (hG : ∀ k, F k → G k) (hl : ∀ k, G k → k < w.heap.size) : PDisk w d G m := by
  obtain ⟨g, pv, hp, h2, _⟩ := h
  exact ⟨g, pv, hp, fun k hk => hG k (h2 k hk), hl⟩
theorem Step.of_ext {w w' : World} {d : Nat} {F : Nat → Prop} {m : DM} (h : PDisk w d F m) (hx : Ext w w') : Step d F w m w' :=
  ⟨(h.ext hx).more (fun _ hk => .inl hk) (fun k hk => hk.elim (fun h1 => Nat.lt_of_lt_of_le (h.lt k h1) hx.size) (fun h1 => h1.2)), Mod.of_ext hx⟩
theorem Step.trans {w w1 w2 : World} {d : Nat} {F : Nat → Prop} {m1 m2 : DM} (h : Step d F w m1 w1) (k : Step d (grow F w w1) w1 m2 w2) : Step d F w m2 w2 := by
  refine ⟨k.1.more (fun i hi => ?_) (fun i hi => ?_), h.2.trans k.2 fun i hi => hi.imp id fun h1 => h1.1⟩
  · rcases hi with (hi | hi) | hi
    · exact .inl hi
    · exact .inr ⟨hi.1, Nat.lt_of_lt_of_le hi.2 k.2.size⟩
    · exact .inr ⟨Nat.le_trans h.2.size hi.1, hi.2⟩
  · rcases hi with hi | hi
    · exact k.1.lt i (.inl (.inl hi))
    · exact hi.2
theorem Step.pre {w w1 w2 : World} {d : Nat} {F : Nat → Prop} {m : DM} (hx : Ext w w1) (h : Step d F w1 m w2) : Step d F w m w2 :=
  ⟨h.1.more (fun _ hi => hi.imp id fun h1 => ⟨Nat.le_trans hx.size h1.1, h1.2⟩) (fun i hi => hi.elim (fun h1 => h.1.lt i (.inl h1)) (fun h1 => h1.2)), (Mod.of_ext hx).trans h.2 fun _ hi => .inl hi⟩
theorem Outc.step {d : Nat} {F : Nat → Prop} {w : World} {E : Int} {m' : DM} {e : Ending} {w' : World} (h : Outc d F w E m' e w') : e = .returned (.int .i64 E) ∧ Step d F w m' w' := ⟨h.1, h.2.1, h.2.2⟩
theorem Step.ext {w w1 w2 : World} {d : Nat} {F : Nat → Prop} {m1 : DM} (h : Step d F w m1 w1) (hx : Ext w1 w2) : Step d F w m1 w2 := h.trans (Step.of_ext h.1 hx)
end Go.Proofs.YtlikhmhomkiadaaGreatDoor

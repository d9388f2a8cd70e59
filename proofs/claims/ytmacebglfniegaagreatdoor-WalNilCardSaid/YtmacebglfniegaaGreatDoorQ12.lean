/-
  Plain facts that the ghost statements' walks come to: disks without faults; faults leave what is meant; what put leaves.
  The contract of Honest.
  Plain facts for GhostHealed and GhostHonest: a disk that is taken up again; what Mine tells of a frame that was written.
  Plain facts on slots, without any program: puts that end anywhere leave a slot as it was, or intact by the new ballot.
  Plain facts on logs, without any program: what is read of a slot's places, what a put leaves of a disk.
  The contracts of a log's small calls: made, isWithin, known, running, Snap, Cut, the places of an index, cmp.Or at errors.
  Plain facts on writes that are done unless one has failed; on a log's Put, told at once.
  Steps of a disk, one behind the other.
  The contracts of what a log's put writes through: unless something has failed, a sector is written, the disk is flushed.
  The contract of hurtSectors, as an iterator: those that are hurt come in order.
  The contracts of the closures of a log's put: a sector's write; what is done unless something has failed.
  The contract of the function that writes a put's frames: a frame is written to its place, sector by sector, and flushed, unless something has failed.
  The contract of open: what the bytes of a place are, or bad where one of its sectors can't be read.
  The contracts of slot's compare, and of the closures that rules and looks for bad or later frames are made of.
  The contract of slot's Print.
  Values stored one behind the other into a block: its row then; what lies elsewhere stays.
  Rows of 5, 11, 14 and 22 values that are stored whole; 11 values stored into one of two halves.
  The contract of slot's Parse: what it stands on.
  The contract of slot's Parse.
  The contracts of entry's Read and Parse.
-/
import Derived.Test.YtmacebglfniegaaGreatDoorQ06
import Derived.Test.YtmacebglfniegaaGreatDoorQ07
import Derived.Test.YtmacebglfniegaaGreatDoorQ08
import Derived.Test.YtmacebglfniegaaGreatDoorQ09
import Derived.Test.YtmacebglfniegaaGreatDoorQ10
import Derived.Test.YtmacebglfniegaaGreatDoorQ11
import Derived.Deep.RegionHeld3
import Derived.RangeFuncNested
import Derived.RangeFuncBound
import Derived.RangeFuncCalls
import Derived.RangeFuncLeaves
import Derived.Shelf.Abstract
import Derived.Shelf.RegionOpen
import Derived.WalkKit
import Derived.OwnWalkIn
import Derived.TacticsInMore
import Derived.LoopNIn
import Derived.LoopIn
import Derived.Laws.EntriesVeiled
import Derived.Lib.Hide
import Derived.Deep.DeepCutAuto
import Derived.RegionTactic
namespace Go.Proofs.YtmacebglfniegaaGreatDoor
set_option maxRecDepth 100000

/-- A disk without faults. -/
structure NInv (m : DM) : Prop where
  ok : m.Ok
  same : ∀ i, m.rest.getD i [] = m.meant.getD i []
  none_ : ∀ i, m.lost.getD i false = false
theorem NInv.of_eq {m m' : DM} (h : NInv m) (hok : m'.Ok) (h1 : m'.rest = m.rest) (h2 : m'.meant = m.meant) (h3 : m'.lost = m.lost) : NInv m' :=
  ⟨hok, fun i => by rw [h1, h2]; exact h.same i, fun i => by rw [h3]; exact h.none_ i⟩
theorem NInv.comes {m : DM} (h : NInv m) {l : List (Nat × List Nat)} (hl : ∀ x ∈ l, x ∈ m.waits) : NInv (m.comes l) := by
  have g := comes_get l m h.ok fun x hx => (h.ok.waits x (hl x hx)).1
  refine ⟨DM.comes_ok l h.ok fun x hx => (h.ok.waits x (hl x hx)).2, fun i => ?_, fun i => ?_⟩
  · rw [(g i).1, (g i).2.1, h.same i]
  · rw [(g i).2.2, h.none_ i]
    split <;> rfl
theorem NInv.write {m : DM} (h : NInv m) (s : Int) {b : List Nat} (hb : ∀ x ∈ b, x < 256) : NInv (m.write s b).2 := by
  have hok := DM.write_ok h.ok s hb
  revert hok
  unfold DM.write
  split
  · intro _; exact h
  · split
    · intro _; exact h
    · split
      · intro hok; exact h.of_eq hok rfl rfl rfl
      · intro hok; exact h.of_eq hok rfl rfl rfl
theorem NInv.act {m : DM} (h : NInv m) (kind : Nat) (sec num : Int) {bytes : List Nat} (hb : ∀ x ∈ bytes, x < 256) (keep : List Bool) (hk : ¬ (3 ≤ kind % 9 ∧ kind % 9 ≤ 5)) : NInv (m.act kind sec num bytes keep).2 := by
  have hok := DM.act_ok h.ok kind sec num hb keep
  have h9 : kind % 9 < 9 := Nat.mod_lt _ (by omega)
  have hcase : kind % 9 = 0 ∨ kind % 9 = 1 ∨ kind % 9 = 2 ∨ kind % 9 = 6 ∨ kind % 9 = 7 ∨ kind % 9 = 8 := by omega
  unfold DM.act at hok ⊢
  rcases hcase with e | e | e | e | e | e
  · simp only [e] at hok ⊢
    revert hok
    unfold DM.flush
    split
    · intro _; exact h
    · split
      · intro hok; exact h.of_eq hok rfl rfl rfl
      · intro hok
        have h2 : NInv { m with power := lessP m.power } := h.of_eq ⟨h.ok.meant, h.ok.lost, h.ok.rests, h.ok.means, h.ok.waits, lessP_le h.ok.power⟩ rfl rfl rfl
        exact (h2.comes (l := m.waits) fun x hx => hx).of_eq hok rfl rfl rfl
  · simp only [e] at hok ⊢
    revert hok
    unfold DM.crash
    split
    · intro _; exact h
    · intro hok; exact (h.comes (l := kept m.waits keep) fun x hx => kept_mem hx).of_eq hok rfl rfl rfl
  · simp only [e] at hok ⊢
    revert hok
    unfold DM.start
    split
    · intro _; exact h
    · intro hok; exact h.of_eq hok rfl rfl rfl
  · simp only [e] at hok ⊢
    exact h.write sec (actB_lt hb)
  · simp only [e] at hok ⊢
    exact h.write sec (actB_lt hb)
  · simp only [e] at hok ⊢
    revert hok
    unfold DM.setPower
    split
    · intro _; exact h
    · split
      · intro _; exact h
      · intro hok; exact h.of_eq hok rfl rfl rfl
theorem NInv.puts {m : DM} (h : NInv m) {S : Int} {L : List Nat} (hl : ∀ x ∈ L, x < 256) (k : Nat) : NInv (m.puts S L k) := by
  induction k with
  | zero => exact h
  | succ k ih => exact ih.write _ fun x hx => hl x (List.mem_of_mem_drop (List.mem_of_mem_take hx))
theorem NInv.hurt {m : DM} (h : NInv m) (s : Int) : m.hurt s = false := by
  unfold DM.hurt DM.at_ DM.means
  by_cases hh : m.has s = false
  · rw [if_pos hh, if_pos hh]; rfl
  · rw [if_neg hh, if_neg hh, h.none_, h.same]
    simp
theorem NInv.new (n : Nat) : NInv (DM.new n) := by
  refine ⟨DM.new_ok n, fun i => rfl, fun i => ?_⟩
  show (List.replicate n false).getD i false = false
  rw [List.getD_eq_getElem?_getD, List.getElem?_replicate]
  split <;> rfl

/-- Faults leave what is meant. -/
structure MInv (m : DM) (M : List (List Nat)) : Prop where
  ok : m.Ok
  size : m.size = 156
  meant : m.meant = M
theorem MInv.means {m m' : DM} {M : List (List Nat)} (h : MInv m M) (h' : MInv m' M) (s : Int) : m.means s = m'.means s := by
  unfold DM.means DM.has
  rw [h.size, h'.size, h.meant, h'.meant]
/-- The pieces of a frame. -/
def pieceL (L : List Nat) (k : Nat) : List Nat := (L.drop (64 * k)).take 64
/-- What put leaves at the frame's sectors. -/
structure Put (m : DM) (S : Int) (L : List Nat) (W : Nat) : Prop where
  ok : m.Ok
  size : m.size = 156
  waits : m.waits = []
  at_ : ∀ i, i < W → m.at_ (S + ((i : Nat) : Int)) = (pieceL L i, false, 0) ∧ m.means (S + ((i : Nat) : Int)) = (pieceL L i, 0)
theorem Put.unhurt {m : DM} {S : Int} {L : List Nat} {W : Nat} (h : Put m S L W) : anyIn m.hurt S W = false := by
  cases hh : anyIn m.hurt S W with
  | false => rfl
  | true =>
    obtain ⟨s, h1, h2, h3⟩ := anyIn_iff.1 hh
    have := h.at_ (s - S).toNat (by omega)
    rw [show S + (((s - S).toNat : Nat) : Int) = s by omega] at this
    unfold DM.hurt at h1
    rw [this.1, this.2] at h1
    simp at h1
end Go.Proofs.YtmacebglfniegaaGreatDoor

namespace Go.Proofs.YtmacebglfniegaaGreatDoor
set_option maxRecDepth 100000
open Go Go.RowKit

/-- The tag that a frame's Mine tells, as a value. -/
def tagV (l : List Nat) (r g p : Int) : Value := .agg #[.int .i64 (mfl l r g p 0), .int .i64 (mfl l r g p 1), .int .i64 (mfl l r g p 2), .int .i64 (mfl l r g p 3), .int .i64 (mfl l r g p 4)]

end Go.Proofs.YtmacebglfniegaaGreatDoor

namespace Go.Proofs.YtmacebglfniegaaGreatDoor
set_option maxRecDepth 100000
open Go Go.RowKit

/-- What Mine tells of a frame at its own place. -/
theorem seal_mine {a b c t e : Int} {s : Int} {body : List Nat} (h : sealE a b c t e body.length s = 0) : stM (sealL a b c t e body s) a b c = 1 ∧ tagV (sealL a b c t e body s) a b c = .agg #[.int .i64 a, .int .i64 b, .int .i64 c, .int .i64 t, .int .i64 e] ∧ mbl (sealL a b c t e body s) a b c = body ∧
    ((mfl (sealL a b c t e body s) a b c 0 : Nat) : Int) = a ∧ ((mfl (sealL a b c t e body s) a b c 1 : Nat) : Int) = b ∧ ((mfl (sealL a b c t e body s) a b c 2 : Nat) : Int) = c ∧ ((mfl (sealL a b c t e body s) a b c 3 : Nat) : Int) = t ∧ ((mfl (sealL a b c t e body s) a b c 4 : Nat) : Int) = e := by
  obtain ⟨hg, hb, q0, q1, q2, q3, q4⟩ := sealL_good h
  obtain ⟨e1, e2, e3⟩ := mine_yes hg ((mineB_iff hg).2 ⟨q0, q1, q2⟩)
  have f0 := e2 0
  have f1 := e2 1
  have f2 := e2 2
  have f3 := e2 3
  have f4 := e2 4
  refine ⟨e1, ?_, e3.trans hb, by rw [f0]; exact q0, by rw [f1]; exact q1, by rw [f2]; exact q2, by rw [f3]; exact q3, by rw [f4]; exact q4⟩
  unfold tagV
  rw [f0, f1, f2, f3, f4, q0, q1, q2, q3, q4]
end Go.Proofs.YtmacebglfniegaaGreatDoor

namespace Go.Proofs.YtmacebglfniegaaGreatDoor
set_option maxRecDepth 100000
open Go

/-- What a put leaves of a frame; how far it came: 1 its frame is torn, 2 it is there, 3 the record names it, too. -/
def newC (i r : Int) (how : Nat) : CopL := if how = 1 then { st := 2 } else { st := 1, ix := i, bx := r, yb := 1, e := { k := 1 } }
def tailF0 (p : Rec) (f0 f1 : CopL) (i r : Int) (how : Nat) : CopL := if how ≠ 0 ∧ nextL p f0 f1 i = 0 then newC i r how else f0
def tailF1 (p : Rec) (f0 f1 : CopL) (i r : Int) (how : Nat) : CopL := if how ≠ 0 ∧ nextL p f0 f1 i = 1 then newC i r how else f1
def tailP (p : Rec) (f0 f1 : CopL) (i r : Int) (how : Nat) : Rec := if how = 3 then { st := 1, ix := i, bx := r, yb := 1, wh := nextL p f0 f1 i } else p
theorem newC_more {i r : Int} {how : Nat} (h : how ≠ 1) : newC i r how = { st := 1, ix := i, bx := r, yb := 1, e := { k := 1 } } := if_neg h
theorem not_of_two {i : Int} : ¬ CopL.of { st := 2 } i := fun h => by have := h.1; cases this
theorem of_new (i r : Int) : CopL.of { st := 1, ix := i, bx := r, yb := 1, e := { k := 1 } } i := ⟨rfl, rfl⟩
/-- Frames, one of which is written anew. -/
theorem TInv.tail {i r r' a : Int} {p : Rec} {f0 f1 : CopL} {how : Nat} (h : TInv i r a p f0 f1) (hr : r ≤ r') (h2 : 2 ≤ r') :
    TInv i r' (if how = 3 then r' else a) (tailP p f0 f1 i r' how) (tailF0 p f0 f1 i r' how) (tailF1 p f0 f1 i r' how) := by
  have h3' := h.a3
  have g3' := h.b3
  have hq1 := h.q1
  by_cases h0 : how = 0
  · subst h0
    unfold tailP tailF0 tailF1
    simp only [if_neg (show ¬ (0 = 3) by omega), ne_eq, not_true, false_and, if_false]
    refine ⟨h.p1, h.p2, h.p3, h.a1, h.a2, fun x => ?_, h.b1, h.b2, fun x => ?_, fun x => ?_, h.q2, h.q3⟩
    · have := h3' x; omega
    · have := g3' x; omega
    · have := hq1 x; omega
  have hn := (nextL_two p f0 f1 i).1
  -- the frame that is kept, if the slot was intact, is the one by which it was
  have keep0 : nextL p f0 f1 i = 0 → p.of i → f1.of i ∧ p.bx ≤ f1.bx := fun hz hp => by
    rcases h.where_ with ⟨_, n, _⟩ | ⟨e, _⟩ | ⟨e, x, y, _⟩
    · exact absurd hp n
    · exact absurd hz (by unfold nextL; rw [e]; simp)
    · exact ⟨x, y hp⟩
  have keep1 : nextL p f0 f1 i = 1 → p.of i → f0.of i ∧ p.bx ≤ f0.bx := fun hz hp => by
    rcases h.where_ with ⟨_, n, _⟩ | ⟨e, x, y, _⟩ | ⟨e, _⟩
    · exact absurd hp n
    · exact ⟨x, y hp⟩
    · exact absurd hz (by unfold nextL; rw [e]; simp)
  by_cases h1 : how = 1
  · subst h1
    rcases hn with hz | hz
    · have e0 : tailF0 p f0 f1 i r' 1 = { st := 2 } := by unfold tailF0; rw [if_pos ⟨by omega, hz⟩]; rfl
      have e1 : tailF1 p f0 f1 i r' 1 = f1 := by unfold tailF1; rw [if_neg (by omega)]
      have ep : tailP p f0 f1 i r' 1 = p := rfl
      rw [e0, e1, ep, if_neg (by omega)]
      refine ⟨h.p1, h.p2, h.p3, by simp, fun x => by simp at x, fun x => absurd x not_of_two, h.b1, h.b2, fun x => ?_, fun x => ?_, fun x => .inr (keep0 hz x), h.q3⟩
      · have := g3' x; omega
      · have := hq1 x; omega
    · have e0 : tailF0 p f0 f1 i r' 1 = f0 := by unfold tailF0; rw [if_neg (by omega)]
      have e1 : tailF1 p f0 f1 i r' 1 = { st := 2 } := by unfold tailF1; rw [if_pos ⟨by omega, hz⟩]; rfl
      have ep : tailP p f0 f1 i r' 1 = p := rfl
      rw [e0, e1, ep, if_neg (by omega)]
      refine ⟨h.p1, h.p2, h.p3, h.a1, h.a2, fun x => ?_, by simp, fun x => by simp at x, fun x => absurd x not_of_two, fun x => ?_, fun x => .inl (keep1 hz x), h.q3⟩
      · have := h3' x; omega
      · have := hq1 x; omega
  · by_cases hh3 : how = 3
    · have ep : tailP p f0 f1 i r' how = { st := 1, ix := i, bx := r', yb := 1, wh := nextL p f0 f1 i } := if_pos hh3
      rw [if_pos hh3]
      rcases hn with hz | hz
      · have e0 : tailF0 p f0 f1 i r' how = { st := 1, ix := i, bx := r', yb := 1, e := { k := 1 } } := by unfold tailF0; rw [if_pos ⟨h0, hz⟩, newC_more h1]
        have e1 : tailF1 p f0 f1 i r' how = f1 := by unfold tailF1; rw [if_neg (by omega)]
        rw [e0, e1, ep, hz]
        refine ⟨by simp, fun _ => by simp, .inl rfl, by simp, fun _ => by simp, fun _ => ⟨rfl, h2, by simp⟩, h.b1, h.b2, fun x => ?_, fun _ => ⟨rfl, h2, by simp, rfl⟩, fun _ => .inl ⟨of_new i r', by simp⟩, fun x => absurd ⟨rfl, rfl⟩ x⟩
        have := g3' x; omega
      · have e0 : tailF0 p f0 f1 i r' how = f0 := by unfold tailF0; rw [if_neg (by omega)]
        have e1 : tailF1 p f0 f1 i r' how = { st := 1, ix := i, bx := r', yb := 1, e := { k := 1 } } := by unfold tailF1; rw [if_pos ⟨h0, hz⟩, newC_more h1]
        rw [e0, e1, ep, hz]
        refine ⟨by simp, fun _ => by simp, .inr rfl, h.a1, h.a2, fun x => ?_, by simp, fun _ => by simp, fun _ => ⟨rfl, h2, by simp⟩, fun _ => ⟨rfl, h2, by simp, rfl⟩, fun _ => .inr ⟨of_new i r', by simp⟩, fun x => absurd ⟨rfl, rfl⟩ x⟩
        have := h3' x; omega
    · have ep : tailP p f0 f1 i r' how = p := if_neg hh3
      rw [if_neg hh3]
      rcases hn with hz | hz
      · have e0 : tailF0 p f0 f1 i r' how = { st := 1, ix := i, bx := r', yb := 1, e := { k := 1 } } := by unfold tailF0; rw [if_pos ⟨h0, hz⟩, newC_more h1]
        have e1 : tailF1 p f0 f1 i r' how = f1 := by unfold tailF1; rw [if_neg (by omega)]
        rw [e0, e1, ep]
        refine ⟨h.p1, h.p2, h.p3, by simp, fun _ => by simp, fun _ => ⟨rfl, h2, by simp⟩, h.b1, h.b2, fun x => ?_, fun x => ?_, fun x => .inr (keep0 hz x), h.q3⟩
        · have := g3' x; omega
        · have := hq1 x; omega
      · have e0 : tailF0 p f0 f1 i r' how = f0 := by unfold tailF0; rw [if_neg (by omega)]
        have e1 : tailF1 p f0 f1 i r' how = { st := 1, ix := i, bx := r', yb := 1, e := { k := 1 } } := by unfold tailF1; rw [if_pos ⟨h0, hz⟩, newC_more h1]
        rw [e0, e1, ep]
        refine ⟨h.p1, h.p2, h.p3, h.a1, h.a2, fun x => ?_, by simp, fun _ => by simp, fun _ => ⟨rfl, h2, by simp⟩, fun x => ?_, fun x => .inl (keep1 hz x), h.q3⟩
        · have := h3' x; omega
        · have := hq1 x; omega
/-- Where the puts begin: nothing stood there, or another, lesser index. -/
theorem TInv.blank (i : Int) : TInv i 2 0 {} {} {} := by
  have n0 : ¬ CopL.of {} i := fun h => by have := h.1; cases this
  have np : ¬ Rec.of {} i := fun h => by have := h.1; cases this
  exact ⟨by simp, fun x => by simp at x, .inl rfl, by simp, fun x => by simp at x, fun x => absurd x n0, by simp, fun x => by simp at x, fun x => absurd x n0, fun x => absurd x np, fun x => absurd x np, fun _ => rfl⟩
end Go.Proofs.YtmacebglfniegaaGreatDoor

namespace Go.Proofs.YtmacebglfniegaaGreatDoor
set_option maxRecDepth 100000

/-- TwoL sectors' bytes, if both could be read. -/
def pair2 (a b : List Nat) : List Nat := if a = [] ∨ b = [] then [] else a ++ b
/-- The record, the frame, that the bytes of a place are. -/
def recQ (r q : Int) (x : List Nat) : Rec :=
  if stM x r 3 q = 1 then (match recR (mbl x r 3 q) with | some (a, b, h) => { st := 1, ix := (mfl x r 3 q 3 : Nat), bx := (a : Nat), yb := (b : Nat), wh := (h : Nat) } | none => { st := 2 }) else { st := stM x r 3 q }
def copQ (r p : Int) (x : List Nat) : CopL :=
  if stM x r 4 p = 1 then (match bdR (mbl x r 4 p) with | some (a, b, e) => { st := 1, ix := (mfl x r 4 p 3 : Nat), bx := (a : Nat), yb := (b : Nat), e := e } | none => { st := 2 }) else { st := stM x r 4 p }
/-- What is read of the places of a slot. -/
def DM.recM (m : DM) (r q : Int) : Rec := recQ r q (m.cb 3 q)
def DM.fb (m : DM) (p : Int) : List Nat := pair2 (m.read (firstS 4 p)).1 (m.read (firstS 4 p + 1)).1
def DM.copM (m : DM) (r p : Int) : CopL := copQ r p (m.fb p)
/-- TwoL sectors written, and flushed. -/
def DM.put2C (m : DM) (s : Int) (L : List Nat) : Int × DM :=
  if (m.write s (L.take 64)).1 ≠ 0 then m.write s (L.take 64) else
    if ((m.write s (L.take 64)).2.write (s + 1) (L.drop 64)).1 ≠ 0 then (m.write s (L.take 64)).2.write (s + 1) (L.drop 64) else ((m.write s (L.take 64)).2.write (s + 1) (L.drop 64)).2.flush
/-- The frames of a put. -/
def frmW (r inc i : Int) (p x y : Int) (e : Ent) : List Nat := sealL r 4 p i inc (bodyL x y e) 2
def recW (r inc i : Int) (q x y k : Int) : List Nat := sealL r 3 q i inc (recL x y k) 1
def DM.putK (m : DM) (r inc i q k x y : Int) (e : Ent) : Int × DM :=
  if (m.put2C (firstS 4 (2 * q + k)) (frmW r inc i (2 * q + k) x y e)).1 ≠ 0 then m.put2C (firstS 4 (2 * q + k)) (frmW r inc i (2 * q + k) x y e) else
    (m.put2C (firstS 4 (2 * q + k)) (frmW r inc i (2 * q + k) x y e)).2.putC (firstS 3 q) (recW r inc i q x y k)
def placeW (i : Int) : Int := (i - 1) % 24
def DM.nextW (m : DM) (r i : Int) : Int := nextL (m.recM r (placeW i)) (m.copM r (2 * placeW i)) (m.copM r (2 * placeW i + 1)) i
def DM.putW (m : DM) (r inc i x y : Int) (e : Ent) : Int × DM := m.putK r inc i (placeW i) (m.nextW r i) x y e

/-! ### Where the places lie -/
def sR (q : Nat) : Nat := 4 + q
def sF (p : Nat) : Nat := 28 + 2 * p
theorem first3 {q : Nat} (h : q < 24) : firstS 3 (q : Int) = (sR q : Nat) := by
  unfold firstS sR
  rw [if_pos (by simp [plc]; omega)]
  simp [beg, wid]
theorem first4 {p : Nat} (h : p < 48) : firstS 4 (p : Int) = (sF p : Nat) := by
  unfold firstS sF
  rw [if_pos (by simp [plc]; omega)]
  simp [beg, wid]
  omega
theorem sR_lt {q : Nat} (h : q < 24) : sR q < 156 := by unfold sR; omega
theorem sF_lt {p : Nat} (h : p < 48) : sF p + 1 < 156 := by unfold sF; omega
/-! ### Frames that are read back -/
theorem nilW_bad (r g p : Int) : stM [] r g p = 2 := by
  have hz : szB [] = false := by decide
  rw [(mine_bad (size_bad hz)).1]
  exact stN_size hz
theorem z64W (r g p : Int) : stM z64 r g p = 0 := by
  have hz : zeroB z64 = true := by decide
  rw [(mine_bad (zero_bad hz)).1]
  exact stN_blank (by decide) hz
theorem z128W (r g p : Int) : stM (pair2 z64 z64) r g p = 0 := by
  have hz : zeroB (pair2 z64 z64) = true := by decide
  rw [(mine_bad (zero_bad hz)).1]
  exact stN_blank (by decide) hz
theorem recQ_nil (r q : Int) : recQ r q [] = { st := 2 } := by unfold recQ; rw [nilW_bad]; rfl
theorem copQ_nil (r p : Int) : copQ r p [] = { st := 2 } := by unfold copQ; rw [nilW_bad]; rfl
theorem recQ_blank (r q : Int) : recQ r q z64 = {} := by unfold recQ; rw [z64W]; rfl
theorem copQ_blank (r p : Int) : copQ r p (pair2 z64 z64) = {} := by unfold copQ; rw [z128W]; rfl
theorem sealW3 {r inc i q x y k : Int} (hm : mayB r 3 q i inc = true) : sealE r 3 q i inc (recL x y k).length 1 = 0 := sealE_yes (by decide) hm (by rw [recL_length, roomN_one]; omega)
theorem sealW4 {r inc i p x y : Int} {e : Ent} (hm : mayB r 4 p i inc = true) (he : enOk e = true) : sealE r 4 p i inc (bodyL x y e).length 2 = 0 := sealE_yes (by decide) hm (by have := bodyL_len (x := x) (y := y) he; rw [roomN_two]; omega)
theorem recW_back {r inc i q x y k : Int} (hm : mayB r 3 q i inc = true) (hb : balE x y = true) (hk : k = 0 ∨ k = 1) : recQ r q (recW r inc i q x y k) = { st := 1, ix := i, bx := x, yb := y, wh := k } := by
  obtain ⟨h1, _, h3, _, _, _, h4, _⟩ := seal_mine (sealW3 (x := x) (y := y) (k := k) hm)
  obtain ⟨a, b, c, ea, eb, ec, hr⟩ := rec_back (recB_iff.2 ⟨balE_iff.1 hb, hk⟩)
  unfold recQ recW
  rw [if_pos h1, h3, hr]
  simp only
  rw [h4, ← ea, ← eb, ← ec]
theorem frmW_back {r inc i p x y : Int} {e : Ent} (hm : mayB r 4 p i inc = true) (hb : balE x y = true) (he : enOk e = true) : copQ r p (frmW r inc i p x y e) = { st := 1, ix := i, bx := x, yb := y, e := e } := by
  obtain ⟨h1, _, h3, _, _, _, h4, _⟩ := seal_mine (sealW4 (x := x) (y := y) hm he)
  obtain ⟨a, b, ea, eb, hr⟩ := bd_back he hb
  unfold copQ frmW
  rw [if_pos h1, h3, hr]
  simp only
  rw [h4, ← ea, ← eb]
theorem recW_sect {r inc i q x y k : Int} (hm : mayB r 3 q i inc = true) (hb : recB x y k = true) : Sect (recW r inc i q x y k) := by
  have hE := sealW3 (x := x) (y := y) (k := k) hm
  exact ⟨by unfold recW; rw [(sealL_len hE).1]; rfl, sealL_lt (recL_lt hb)⟩
theorem frmW_sects {r inc i p x y : Int} {e : Ent} (hm : mayB r 4 p i inc = true) (hb : balE x y = true) (he : enOk e = true) : Sect ((frmW r inc i p x y e).take 64) ∧ Sect ((frmW r inc i p x y e).drop 64) ∧ pair2 ((frmW r inc i p x y e).take 64) ((frmW r inc i p x y e).drop 64) = frmW r inc i p x y e := by
  have hE := sealW4 (x := x) (y := y) hm he
  have hl : (frmW r inc i p x y e).length = 128 := by unfold frmW; rw [(sealL_len hE).1]; rfl
  have hb : ∀ z ∈ frmW r inc i p x y e, z < 256 := sealL_lt (bodyL_lt he hb)
  have h1 : ((frmW r inc i p x y e).take 64).length = 64 := by rw [List.length_take, hl]; rfl
  have h2 : ((frmW r inc i p x y e).drop 64).length = 64 := by rw [List.length_drop, hl]
  refine ⟨⟨h1, fun z hz => hb z (List.mem_of_mem_take hz)⟩, ⟨h2, fun z hz => hb z (List.mem_of_mem_drop hz)⟩, ?_⟩
  unfold pair2
  rw [if_neg (by
    rintro (h | h)
    · rw [h] at h1; cases h1
    · rw [h] at h2; cases h2), List.take_append_drop]
end Go.Proofs.YtmacebglfniegaaGreatDoor

namespace Go.Proofs.YtmacebglfniegaaGreatDoor
open Go Go.RowKit

/-- A log that Open returned. -/
structure LogAt (w : World) (g d : Nat) (r inc : Int) (s : Nat) : Prop where
  row : w.heap[g]? = some (.cells #[.pointer (some ⟨g, 0, none⟩), .pointer (some ⟨d, 0, none⟩), .int .i64 r, .int .i64 inc, .int .i64 (s : Int)] 75 (0, 0))
theorem LogAt.lt {w : World} {g d s : Nat} {r inc : Int} (h : LogAt w g d r inc s) : g < w.heap.size := (Array.getElem?_eq_some_iff.1 h.row).1
theorem LogAt.cells {w : World} {g d s : Nat} {r inc : Int} (h : LogAt w g d r inc s) : w.cell? ⟨g, 0, none⟩ = some (.pointer (some ⟨g, 0, none⟩)) ∧ w.cell? ⟨g, 1, none⟩ = some (.pointer (some ⟨d, 0, none⟩)) ∧ w.cell? ⟨g, 2, none⟩ = some (.int .i64 r) ∧ w.cell? ⟨g, 3, none⟩ = some (.int .i64 inc) ∧ w.cell? ⟨g, 4, none⟩ = some (.int .i64 (s : Int)) :=
  ⟨cell_of_row w g 0 _ _ _ h.row, cell_of_row w g 1 _ _ _ h.row, cell_of_row w g 2 _ _ _ h.row, cell_of_row w g 3 _ _ _ h.row, cell_of_row w g 4 _ _ _ h.row⟩
theorem LogAt.ext {w w' : World} {g d s : Nat} {r inc : Int} (h : LogAt w g d r inc s) (hx : Ext w w') : LogAt w' g d r inc s := ⟨(hx.block _ h.lt).trans h.row⟩
theorem LogAt.mod {w w' : World} {F : Nat → Prop} {g d s : Nat} {r inc : Int} (h : LogAt w g d r inc s) (hm : Mod F w w') (hF : ¬ F g) : LogAt w' g d r inc s := ⟨(hm.block g h.lt hF).trans h.row⟩

theorem eqlW_nil_some (a : Addr) (w : World) : (binOp .eql 31 (.pointer none) (.pointer (some a))).run Tryz.prog w = .ok (.bool false) w := by
  have h : ∀ d : Nat, (Op.equalIn (d + 1) 31 (.pointer none) (.pointer (some a))).run Tryz.prog w = .ok false w := fun d => by
    simp [Op.equalIn, run_underlying Tryz.underlying31]
  simp only [binOp]
  simp [Op.equal, Op.maxDepth, h 9999]
/-- A pointer to no log that Open returned: nil, or to one whose first cell is nil. -/
def UnmadeW (w : World) (p : Option Addr) : Prop := p = none ∨ ∃ d, p = some ⟨d, 0, none⟩ ∧ w.cell? ⟨d, 0, none⟩ = some (.pointer none)
set_option maxRecDepth 100000 in
set_option maxHeartbeats 400000 in
theorem wmade_no (p : Option Addr) (w : World) (h : UnmadeW w p) :
    Calls Tryz.prog 60 #[.pointer p] w fun e w' => e = .returned (.bool false) ∧ w = w' := by
  rcases h with rfl | ⟨d, rfl, h⟩
  · go_enter Tryz.func60, Tryz.ntmps60
    go_wp2
    go_ret
    exact ⟨rfl, rfl⟩
  · have he := eqlW_nil_some
    go_enter Tryz.func60, Tryz.ntmps60
    go_wp2
    go_ret
    exact ⟨rfl, rfl⟩

def inI (a b c : Int) : Bool := decide (a ≤ b) && decide (b ≤ c)
set_option maxHeartbeats 400000 in
theorem isWithin_of (a b c : Int) (w : World) : Calls Tryz.prog 41 #[.int .i64 a, .int .i64 b, .int .i64 c] w fun e w' => e = .returned (.bool (inI a b c)) ∧ w = w' := by
  by_cases h : a ≤ b
  · have hi : inI a b c = decide (b ≤ c) := by unfold inI; rw [decide_eq_true h, Bool.true_and]
    rw [hi]
    clear hi
    go_enter Tryz.func41, Tryz.ntmps41
    go_wp2_with fail
    go_ret
    exact ⟨rfl, rfl⟩
  · have hi : inI a b c = false := by unfold inI; rw [decide_eq_false h, Bool.false_and]
    rw [hi]
    clear hi
    go_enter Tryz.func41, Tryz.ntmps41
    go_wp2_with fail
    go_ret
    exact ⟨rfl, rfl⟩

theorem wknown_no {w : World} {p : Option Addr} (h : UnmadeW w p) (i : Int) :
    Calls Tryz.prog 46 #[.pointer p, .int .i64 i] w fun e w' => e = .returned (.int .i64 1) ∧ w = w' := by
  have HM := Lib.hid (wmade_no p w h)
  clear h
  go_enter Tryz.func46, Tryz.ntmps46
  go_wp2_with fail
  refine HM.out.mono ?_
  rintro e w1 ⟨rfl, rfl⟩
  go_wp2_with fail
  go_ret
  exact ⟨rfl, rfl⟩

theorem wrunning_no {w : World} {p : Option Addr} (h : UnmadeW w p) :
    Calls Tryz.prog 47 #[.pointer p] w fun e w' => e = .returned (.int .i64 1) ∧ w = w' := by
  have HM := Lib.hid (wmade_no p w h)
  clear h
  go_enter Tryz.func47, Tryz.ntmps47
  go_wp2_with fail
  refine HM.out.mono ?_
  rintro e w1 ⟨rfl, rfl⟩
  go_wp2_with fail
  go_ret
  exact ⟨rfl, rfl⟩

theorem wsnap_no {w : World} {p : Option Addr} (h : UnmadeW w p) :
    Calls Tryz.prog 17 #[.pointer p] w fun e w' => e = .returned (.int .i64 0) ∧ w = w' := by
  have HM := Lib.hid (wmade_no p w h)
  clear h
  go_enter Tryz.func17, Tryz.ntmps17
  go_wp2_with fail
  refine HM.out.mono ?_
  rintro e w1 ⟨rfl, rfl⟩
  go_wp2_with fail
  go_ret
  exact ⟨rfl, rfl⟩

theorem wcut_no {w : World} {p : Option Addr} (h : UnmadeW w p) (n : Int) :
    Calls Tryz.prog 15 #[.pointer p, .int .i64 n] w fun e w' => e = .returned (.int .i64 1) ∧ w = w' := by
  have HM := Lib.hid (wmade_no p w h)
  clear h
  go_enter Tryz.func15, Tryz.ntmps15
  go_wp2_with fail
  refine HM.out.mono ?_
  rintro e w1 ⟨rfl, rfl⟩
  go_wp2_with fail
  go_ret
  exact ⟨rfl, rfl⟩

end Go.Proofs.YtmacebglfniegaaGreatDoor

namespace Go.Proofs.YtmacebglfniegaaGreatDoor

end Go.Proofs.YtmacebglfniegaaGreatDoor

namespace Go.Proofs.YtmacebglfniegaaGreatDoor
set_option maxRecDepth 100000
open Go Go.RowKit

/-- A step of a disk: what it is then, and that no block but its own was written. -/
def Step (d : Nat) (F : Nat → Prop) (w : World) (m' : DM) (w' : World) : Prop := PDisk w' d (grow F w w') m' ∧ Mod F w w'
theorem PDisk.more {w : World} {d : Nat} {F G : Nat → Prop} {m : DM} (h : PDisk w d F m) (hG : ∀ k, F k → G k) (hl : ∀ k, G k → k < w.heap.size) : PDisk w d G m := by
  obtain ⟨g, pv, hp, h2, _⟩ := h
  exact ⟨g, pv, hp, fun k hk => hG k (h2 k hk), hl⟩
theorem Step.of_ext {w w' : World} {d : Nat} {F : Nat → Prop} {m : DM} (h : PDisk w d F m) (hx : Ext w w') : Step d F w m w' :=
  ⟨(h.ext hx).more (fun _ hk => .inl hk) (fun k hk => hk.elim (fun h1 => Nat.lt_of_lt_of_le (h.lt k h1) hx.size) (fun h1 => h1.2)), Mod.of_ext hx⟩
theorem Step.trans {w w1 w2 : World} {d : Nat} {F : Nat → Prop} {m1 m2 : DM} (h : Step d F w m1 w1) (k : Step d (grow F w w1) w1 m2 w2) : Step d F w m2 w2 := by
  refine ⟨k.1.more (fun i hi => ?_) (fun i hi => ?_), h.2.trans k.2 fun i hi => hi.imp id fun h1 => h1.1⟩
  · rcases hi with (hi | hi) | hi
    · exact .inl hi
    · exact .inr ⟨hi.1, Nat.lt_of_lt_of_le hi.2 k.2.size⟩
    · exact .inr ⟨Nat.le_trans h.2.size hi.1, hi.2⟩
  · rcases hi with hi | hi
    · exact k.1.lt i (.inl (.inl hi))
    · exact hi.2
theorem Step.pre {w w1 w2 : World} {d : Nat} {F : Nat → Prop} {m : DM} (hx : Ext w w1) (h : Step d F w1 m w2) : Step d F w m w2 :=
  ⟨h.1.more (fun _ hi => hi.imp id fun h1 => ⟨Nat.le_trans hx.size h1.1, h1.2⟩) (fun i hi => hi.elim (fun h1 => h.1.lt i (.inl h1)) (fun h1 => h1.2)), (Mod.of_ext hx).trans h.2 fun _ hi => .inl hi⟩
theorem Outc.step {d : Nat} {F : Nat → Prop} {w : World} {E : Int} {m' : DM} {e : Ending} {w' : World} (h : Outc d F w E m' e w') : e = .returned (.int .i64 E) ∧ Step d F w m' w' := ⟨h.1, h.2.1, h.2.2⟩
theorem Step.ext {w w1 w2 : World} {d : Nat} {F : Nat → Prop} {m1 : DM} (h : Step d F w m1 w1) (hx : Ext w1 w2) : Step d F w m1 w2 := h.trans (Step.of_ext h.1 hx)
end Go.Proofs.YtmacebglfniegaaGreatDoor

namespace Go.Proofs.YtmacebglfniegaaGreatDoor
open Go Go.RowKit

/-- A disk whose blocks are now those of F', and the first error in a block beside it, behind some writes since w0. -/
structure WrS (w0 : World) (d : Nat) (F F' : Nat → Prop) (bf : Nat) (w : World) (x : Int × DM) : Prop where
  disk : PDisk w d F' x.2
  sub : ∀ k, F' k → F k ∨ w0.heap.size ≤ k
  off : ¬ F' bf
  mod : Mod (fun k => F k ∨ k = bf) w0 w
  row : w.heap[bf]? = some (.cells #[.int .i64 x.1] 25 (0, 0))
theorem WrS.start {w : World} {d bf : Nat} {F : Nat → Prop} {m : DM} {E : Int} (h : PDisk w d F m) (ho : ¬ F bf) (hr : w.heap[bf]? = some (.cells #[.int .i64 E] 25 (0, 0))) : WrS w d F F bf w (E, m) :=
  ⟨h, fun _ hk => .inl hk, ho, Mod.refl _ w, hr⟩
section
variable {w0 w w' : World} {d bf : Nat} {F F' : Nat → Prop} {x : Int × DM}
theorem WrS.ext (h : WrS w0 d F F' bf w x) (hx : Ext w w') : WrS w0 d F F' bf w' x :=
  ⟨h.disk.ext hx, h.sub, h.off, h.mod.trans (Mod.of_ext hx) fun _ hi => .inl hi, (hx.block _ (Array.getElem?_eq_some_iff.1 h.row).1).trans h.row⟩
theorem WrS.cell (h : WrS w0 d F F' bf w x) : w.cell? ⟨bf, 0, none⟩ = some (.int .i64 x.1) ∧ w.frozen? ⟨bf, 0, none⟩ = false := ⟨cell_of_row w bf 0 _ _ _ h.row, frozen_of_row w bf 0 _ _ h.row⟩
/-- Behind a call: the disk's blocks that were there are those that were its. -/
def WrT (w0 : World) (d : Nat) (F F' : Nat → Prop) (bf : Nat) (w w' : World) (x : Int × DM) : Prop := ∃ F'', WrS w0 d F F'' bf w' x ∧ (∀ k, k < w.heap.size → F'' k → F' k) ∧ Mod (fun k => F' k ∨ k = bf) w w'
theorem WrS.same (h : WrS w0 d F F' bf w x) : WrT w0 d F F' bf w w x := ⟨F', h, fun _ _ hk => hk, Mod.refl _ w⟩
end
/-- A call at the disk, and its answer stored as the first error. -/
theorem WrS.put {w0 w w' : World} {d bf : Nat} {F F' : Nat → Prop} {E0 E : Int} {m m' : DM} {e : Ending} (h : WrS w0 d F F' bf w (E0, m)) (ho : Outc d F' w E m' e w') : WrT w0 d F F' bf w (w'.setCell ⟨bf, 0, none⟩ (.int .i64 E)) (E, m') := by
  have hrow : w'.heap[bf]? = some (.cells #[.int .i64 E0] 25 (0, 0)) := (ho.2.2.block bf (Array.getElem?_eq_some_iff.1 h.row).1 h.off).trans h.row
  have hset : Mod (fun k => k = bf) w' (w'.setCell ⟨bf, 0, none⟩ (.int .i64 E)) := (Mod.refl (fun k => k = bf) w').setCell (p := ⟨bf, 0, none⟩) (.inl rfl) _
  have hs1 := h.mod.size
  have hs2 := ho.2.2.size
  have hlt := (Array.getElem?_eq_some_iff.1 h.row).1
  have hnb : ¬ grow F' w w' bf := fun hk => hk.elim h.off fun h1 => by have := h1.1; omega
  have hm : Mod (fun k => F' k ∨ k = bf) w (w'.setCell ⟨bf, 0, none⟩ (.int .i64 E)) := (ho.2.2.mono fun i hi => .inl hi).trans hset fun i hi => .inl (.inr hi)
  refine ⟨grow F' w w', ⟨ho.2.1.mod hset fun i hi hb => hnb (hb ▸ hi), fun k hk => ?_, hnb, h.mod.trans hm fun i hi => ?_, row_set (cs' := #[.int .i64 E]) 0 hrow (.int .i64 E) rfl⟩, fun k hk hg => ?_, hm⟩
  · rcases hk with hk | hk
    · exact h.sub k hk
    · exact .inr (by omega)
  · rcases hi with hi | hi
    · rcases h.sub i hi with h1 | h1
      · exact .inl (.inl h1)
      · exact .inr h1
    · exact .inl (.inr hi)
  · rcases hg with hg | hg
    · exact hg
    · omega
end Go.Proofs.YtmacebglfniegaaGreatDoor

namespace Go.Proofs.YtmacebglfniegaaGreatDoor
set_option maxRecDepth 100000
open Go Go.RowKit Go.Shelf
attribute [local go_sem] Oper.semAt_some

theorem ext_of_cell {w w' : World} {g i : Nat} {v : Value} (h : Ext w w') (hc : w.cell? ⟨g, i, none⟩ = some v) : w'.cell? ⟨g, i, none⟩ = some v := (Below.cell h (p := ⟨g, i, none⟩) (World.block_lt_of_cell? w _ hc)).trans hc
/-- What the iterator stands on: that the sectors' answers abide where the blocks of G alone are written. -/
def HurtsOn (G : Nat → Prop) (W0 : World) (p : Option Addr) (a : Int) (k : Nat) (h : Int → Bool) : Prop :=
  ∀ x : Int, a ≤ x → x < a + k → ∀ W, Mod G W0 W → Calls Tryz.prog 134 #[.pointer p, .int .i64 x] W fun e W' => e = .returned (.bool (h x)) ∧ Ext W W'
theorem HurtsOn.of {G : Nat → Prop} {W0 : World} {d : Nat} {F : Nat → Prop} {m : DM} (hd : PDisk W0 d F m) (hG : ∀ i, F i → ¬ G i) (a : Int) (k : Nat) : HurtsOn G W0 (some ⟨d, 0, none⟩) a k m.hurt :=
  fun x _ _ _ hm => isHurt_of (hd.mod hm hG) x
theorem HurtsOn.none (G : Nat → Prop) (W0 : World) (p : Option Addr) (a : Int) (h : Int → Bool) : HurtsOn G W0 p a 0 h := fun x h1 h2 => by omega

end Go.Proofs.YtmacebglfniegaaGreatDoor

namespace Go.Proofs.YtmacebglfniegaaGreatDoor
open Go Go.RowKit Go.Shelf
attribute [local go_sem] Oper.semAt_some

end Go.Proofs.YtmacebglfniegaaGreatDoor

namespace Go.Proofs.YtmacebglfniegaaGreatDoor
open Go Go.RowKit Go.Shelf
attribute [local go_sem] Oper.semAt_some

/-- The boxes of the function that writes: the log, the index, the function that calls unless something has failed. -/
structure WBox (w : World) (F : Nat → Prop) (g d s : Nat) (r inc i : Int) (bl bi bu bf : Nat) : Prop where
  log : LogAt w g d r inc s
  cl : w.cell? ⟨bl, 0, none⟩ = some (.pointer (some ⟨g, 0, none⟩))
  ci : w.cell? ⟨bi, 0, none⟩ = some (.int .i64 i)
  cu : w.cell? ⟨bu, 0, none⟩ = some (.func (.func 96) #[] #[.pointer (some ⟨bf, 0, none⟩)])
  off : ¬ F g ∧ ¬ F bl ∧ ¬ F bi ∧ ¬ F bu
  ne : bf ≠ g ∧ bf ≠ bl ∧ bf ≠ bi ∧ bf ≠ bu
section
variable {w w' : World} {F : Nat → Prop} {g d s : Nat} {r inc i : Int} {bl bi bu bf : Nat}
theorem WBox.lts (h : WBox w F g d s r inc i bl bi bu bf) : g < w.heap.size ∧ bl < w.heap.size ∧ bi < w.heap.size ∧ bu < w.heap.size :=
  ⟨h.log.lt, World.block_lt_of_cell? w _ h.cl, World.block_lt_of_cell? w _ h.ci, World.block_lt_of_cell? w _ h.cu⟩
theorem WBox.ext (h : WBox w F g d s r inc i bl bi bu bf) (hx : Ext w w') : WBox w' F g d s r inc i bl bi bu bf := ⟨h.log.ext hx, ext_of_cell hx h.cl, ext_of_cell hx h.ci, ext_of_cell hx h.cu, h.off, h.ne⟩
end
/-- The frame that is written, and its box. -/
structure FBox (w : World) (F : Nat → Prop) (bf bb ga oa n c : Nat) (L : List Nat) : Prop where
  row : By w (some ⟨ga, oa, none⟩) n c L
  cb : w.cell? ⟨bb, 0, none⟩ = some (.slice (some ⟨ga, oa, none⟩) n c)
  off : ¬ F ga ∧ ¬ F bb
  ne : bf ≠ ga ∧ bf ≠ bb
  lts : ga < w.heap.size ∧ bb < w.heap.size
theorem FBox.ext {w w' : World} {F : Nat → Prop} {bf bb ga oa n c : Nat} {L : List Nat} (h : FBox w F bf bb ga oa n c L) (hx : Ext w w') : FBox w' F bf bb ga oa n c L :=
  ⟨h.row.ext hx, ext_of_cell hx h.cb, h.off, h.ne, Nat.lt_of_lt_of_le h.lts.1 hx.size, Nat.lt_of_lt_of_le h.lts.2 hx.size⟩
end Go.Proofs.YtmacebglfniegaaGreatDoor

namespace Go.Proofs.YtmacebglfniegaaGreatDoor
open Go Go.RowKit

end Go.Proofs.YtmacebglfniegaaGreatDoor

namespace Go.Proofs.YtmacebglfniegaaGreatDoor
set_option maxRecDepth 100000
open Go Go.RowKit

theorem keep_row {u w' : World} {g : Nat} {ob : Obj} (k : Ext u w') (h : u.heap[g]? = some ob) : w'.heap[g]? = some ob := (k.block g (Array.getElem?_eq_some_iff.1 h).1).trans h
end Go.Proofs.YtmacebglfniegaaGreatDoor

namespace Go.Proofs.YtmacebglfniegaaGreatDoor
set_option maxRecDepth 100000
open Go Go.RowKit

theorem By.none_ (w : World) : By w none 0 0 [] := ⟨rfl, Nat.le_refl _, by omega, Rd.nil_, fun _ => rfl⟩
end Go.Proofs.YtmacebglfniegaaGreatDoor

namespace Go.Proofs.YtmacebglfniegaaGreatDoor
set_option maxRecDepth 100000
open Go Go.RowKit

def setL (w : World) (g : Nat) : Nat → List Value → World
  | _, [] => w
  | o, x :: xs => setL (w.setCell ⟨g, o, none⟩ x) g (o + 1) xs
def setA (cs : Array Value) : Nat → List Value → Array Value
  | _, [] => cs
  | o, x :: xs => setA (cs.setIfInBounds o x) (o + 1) xs
theorem row_set1 {w : World} {g i : Nat} {cs : Array Value} {t : TypeId} (h : w.heap[g]? = some (.cells cs t (0, 0))) (v : Value) : (w.setCell ⟨g, i, none⟩ v).heap[g]? = some (.cells (cs.setIfInBounds i v) t (0, 0)) := by
  rw [setCell_eq_setRow w g i _ _ _ v h]
  exact setRow_heap w g _ (cs.setIfInBounds i v) _ _ h
theorem row_setL {g : Nat} {t : TypeId} : ∀ (xs : List Value) (w : World) (o : Nat) (cs : Array Value), w.heap[g]? = some (.cells cs t (0, 0)) → (setL w g o xs).heap[g]? = some (.cells (setA cs o xs) t (0, 0))
  | [], _, _, _, h => h
  | x :: xs, _, o, _, h => row_setL xs _ (o + 1) _ (row_set1 h x)
theorem mod_setL {g : Nat} : ∀ (xs : List Value) (w : World) (o : Nat), Mod (fun k => k = g) w (setL w g o xs)
  | [], w, _ => Mod.refl (fun k => k = g) w
  | x :: xs, w, o => Mod.trans (F := fun k => k = g) (Mod.setCell (F := fun k => k = g) (Mod.refl (fun k => k = g) w) (p := ⟨g, o, none⟩) (.inl rfl) x) (mod_setL xs _ (o + 1)) fun _ hi => .inl hi
theorem ext_setL {a w : World} (h : Ext a w) {g : Nat} (hg : a.heap.size ≤ g) (xs : List Value) (o : Nat) : Ext a (setL w g o xs) :=
  Mod.to_ext (Mod.trans (F := fun k => k = g) (Mod.of_ext (F := fun k => k = g) h) (mod_setL xs w o) fun _ hi => .inl hi) fun i hi => by subst hi; exact hg
theorem off_setL {w : World} {g k : Nat} {ob : Obj} (h : w.heap[k]? = some ob) (hk : k ≠ g) (xs : List Value) (o : Nat) : (setL w g o xs).heap[k]? = some ob :=
  ((mod_setL (g := g) xs w o).block k (Array.getElem?_eq_some_iff.1 h).1 hk).trans h
end Go.Proofs.YtmacebglfniegaaGreatDoor

namespace Go.Proofs.YtmacebglfniegaaGreatDoor
set_option maxRecDepth 100000
open Go Go.RowKit

theorem arr5 (x0 x1 x2 x3 x4 z0 z1 z2 z3 z4 : Value) : setA #[z0, z1, z2, z3, z4] 0 [x0, x1, x2, x3, x4] = #[x0, x1, x2, x3, x4] := by
  simp only [setA, List.setIfInBounds_toArray, List.set_cons_zero, List.set_cons_succ, Nat.zero_add, Nat.reduceAdd]
theorem tower11 (w : World) (g : Nat) (x0 x1 x2 x3 x4 x5 x6 x7 x8 x9 x10 : Value) : (((((((((((w.setCell ⟨g, 0, none⟩ (x0)).setCell ⟨g, 1, none⟩ (x1)).setCell ⟨g, 2, none⟩ (x2)).setCell ⟨g, 3, none⟩ (x3)).setCell ⟨g, 4, none⟩ (x4)).setCell ⟨g, 5, none⟩ (x5)).setCell ⟨g, 6, none⟩ (x6)).setCell ⟨g, 7, none⟩ (x7)).setCell ⟨g, 8, none⟩ (x8)).setCell ⟨g, 9, none⟩ (x9)).setCell ⟨g, 10, none⟩ (x10)) = setL w g 0 [x0, x1, x2, x3, x4, x5, x6, x7, x8, x9, x10] := by
  simp only [setL, Nat.zero_add, Nat.reduceAdd]
theorem arr11 (x0 x1 x2 x3 x4 x5 x6 x7 x8 x9 x10 z0 z1 z2 z3 z4 z5 z6 z7 z8 z9 z10 : Value) : setA #[z0, z1, z2, z3, z4, z5, z6, z7, z8, z9, z10] 0 [x0, x1, x2, x3, x4, x5, x6, x7, x8, x9, x10] = #[x0, x1, x2, x3, x4, x5, x6, x7, x8, x9, x10] := by
  simp only [setA, List.setIfInBounds_toArray, List.set_cons_zero, List.set_cons_succ, Nat.zero_add, Nat.reduceAdd]
theorem row11 {w : World} {g : Nat} {t : TypeId} {z0 z1 z2 z3 z4 z5 z6 z7 z8 z9 z10 : Value} (h : w.heap[g]? = some (.cells #[z0, z1, z2, z3, z4, z5, z6, z7, z8, z9, z10] t (0, 0))) (x0 x1 x2 x3 x4 x5 x6 x7 x8 x9 x10 : Value) :
    ((((((((((((w.setCell ⟨g, 0, none⟩ (x0)).setCell ⟨g, 1, none⟩ (x1)).setCell ⟨g, 2, none⟩ (x2)).setCell ⟨g, 3, none⟩ (x3)).setCell ⟨g, 4, none⟩ (x4)).setCell ⟨g, 5, none⟩ (x5)).setCell ⟨g, 6, none⟩ (x6)).setCell ⟨g, 7, none⟩ (x7)).setCell ⟨g, 8, none⟩ (x8)).setCell ⟨g, 9, none⟩ (x9)).setCell ⟨g, 10, none⟩ (x10))).heap[g]? = some (.cells #[x0, x1, x2, x3, x4, x5, x6, x7, x8, x9, x10] t (0, 0)) := by
  rw [tower11]
  have h2 := row_setL [x0, x1, x2, x3, x4, x5, x6, x7, x8, x9, x10] w 0 _ h
  rw [arr11] at h2
  exact h2
theorem off11 {w : World} {g k : Nat} {ob : Obj} (h : w.heap[k]? = some ob) (hk : k ≠ g) (x0 x1 x2 x3 x4 x5 x6 x7 x8 x9 x10 : Value) : ((((((((((((w.setCell ⟨g, 0, none⟩ (x0)).setCell ⟨g, 1, none⟩ (x1)).setCell ⟨g, 2, none⟩ (x2)).setCell ⟨g, 3, none⟩ (x3)).setCell ⟨g, 4, none⟩ (x4)).setCell ⟨g, 5, none⟩ (x5)).setCell ⟨g, 6, none⟩ (x6)).setCell ⟨g, 7, none⟩ (x7)).setCell ⟨g, 8, none⟩ (x8)).setCell ⟨g, 9, none⟩ (x9)).setCell ⟨g, 10, none⟩ (x10))).heap[k]? = some ob := by
  rw [tower11]
  exact off_setL h hk _ _
theorem ext11 {a w : World} (h : Ext a w) {g : Nat} (hg : a.heap.size ≤ g) (x0 x1 x2 x3 x4 x5 x6 x7 x8 x9 x10 : Value) : Ext a ((((((((((((w.setCell ⟨g, 0, none⟩ (x0)).setCell ⟨g, 1, none⟩ (x1)).setCell ⟨g, 2, none⟩ (x2)).setCell ⟨g, 3, none⟩ (x3)).setCell ⟨g, 4, none⟩ (x4)).setCell ⟨g, 5, none⟩ (x5)).setCell ⟨g, 6, none⟩ (x6)).setCell ⟨g, 7, none⟩ (x7)).setCell ⟨g, 8, none⟩ (x8)).setCell ⟨g, 9, none⟩ (x9)).setCell ⟨g, 10, none⟩ (x10))) := by
  rw [tower11]
  exact ext_setL h hg _ _
theorem arr22 (x0 x1 x2 x3 x4 x5 x6 x7 x8 x9 x10 x11 x12 x13 x14 x15 x16 x17 x18 x19 x20 x21 z0 z1 z2 z3 z4 z5 z6 z7 z8 z9 z10 z11 z12 z13 z14 z15 z16 z17 z18 z19 z20 z21 : Value) : setA #[z0, z1, z2, z3, z4, z5, z6, z7, z8, z9, z10, z11, z12, z13, z14, z15, z16, z17, z18, z19, z20, z21] 0 [x0, x1, x2, x3, x4, x5, x6, x7, x8, x9, x10, x11, x12, x13, x14, x15, x16, x17, x18, x19, x20, x21] = #[x0, x1, x2, x3, x4, x5, x6, x7, x8, x9, x10, x11, x12, x13, x14, x15, x16, x17, x18, x19, x20, x21] := by
  simp only [setA, List.setIfInBounds_toArray, List.set_cons_zero, List.set_cons_succ, Nat.zero_add, Nat.reduceAdd]
end Go.Proofs.YtmacebglfniegaaGreatDoor

namespace Go.Proofs.YtmacebglfniegaaGreatDoor
set_option maxRecDepth 100000
open Go Go.RowKit

/-- What Parse has made. -/
structure PaS (w W : World) (g g1 : Nat) (x y a b d : Int) : Prop where
  bal : W.heap[g]? = some (.cells #[.int .i64 x, .int .i64 y] 38 (0, 0))
  num : W.heap[g1]? = some (.cells #[.int .i64 a, .int .i64 b, .int .i64 d] 176 (0, 0))
  ext : Ext w W
  ne : g ≠ g1 ∧ w.heap.size ≤ g ∧ w.heap.size ≤ g1
section
variable {w W W' : World} {g g1 : Nat} {x y a b d : Int}
theorem PaS.mono (h : PaS w W g g1 x y a b d) (k : Ext W W') : PaS w W' g g1 x y a b d := ⟨keep_row k h.bal, keep_row k h.num, h.ext.trans k, h.ne⟩
theorem PaS.put2 (h : PaS w W g g1 x y a b d) (v : Int) : PaS w (W.setCell ⟨g1, 2, none⟩ (.int .i64 v)) g g1 x y a b v := ⟨off_setL h.bal h.ne.1 [.int .i64 v] 2, row_set1 h.num _, ext_setL h.ext h.ne.2.2 [.int .i64 v] 2, h.ne⟩
end
end Go.Proofs.YtmacebglfniegaaGreatDoor

namespace Go.Proofs.YtmacebglfniegaaGreatDoor
set_option maxRecDepth 100000
open Go Go.RowKit

end Go.Proofs.YtmacebglfniegaaGreatDoor

namespace Go.Proofs.YtmacebglfniegaaGreatDoor
set_option maxRecDepth 100000
open Go Go.RowKit

end Go.Proofs.YtmacebglfniegaaGreatDoor

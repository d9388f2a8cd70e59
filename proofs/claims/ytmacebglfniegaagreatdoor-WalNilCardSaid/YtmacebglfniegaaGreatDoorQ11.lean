/-
  Plain facts on cells, without any program: which of two copies is loaded, what each call answers.
  Plain facts on copies: what a good copy's tag is; the frames that are put.
  Plain facts on a disk with cells on it: what puts leave, with power or without; what is loaded then.
  Plain facts on what is hurt, without any program: sectors, places.
  The contract of the program's Wide and sectors.
  The contracts of the tag functions that reckon sectors: start, First, All, Where.
  The contracts of the observers' small functions: isHurt, known, knownPlace, restBytes, meantBytes, isBad.
  Lists of ghost's acts (a bool, a tag, a list of bytes, an act of a disk) that came in, opened: what their cells hold.
  The contract of the statements' Sector: what an act writes.
  The contract of the statements' Do: an act at the program's disk.
  The contracts of the statements' reads and Great; a disk since a world.
  The contract of the statements' Great; a round of Do over a list of acts that came in.
  The contract of the frame statements' own first look at the chapter's examples: it answers true and writes nothing that was there.
  The contract of the document's own shifting of a bit.
  The contracts of the document's own checksum: bytes.
  The contract of the document's own Seal.
  The contracts of the ghost statements' wide and Great; what an act does to a disk, in plain words.
  The contract of the statements' own 'sealed': a frame in one sector or in two, and whether there is one.
  The contract of the ghost statements' Do.
  The contracts of the ghost statements' Do, for any act, and of put.
  The contracts of restBytes, meantBytes and isBad.
-/
import Derived.Test.YtmacebglfniegaaGreatDoorQ01
import Derived.Test.YtmacebglfniegaaGreatDoorQ03
import Derived.Test.YtmacebglfniegaaGreatDoorQ04
import Derived.Test.YtmacebglfniegaaGreatDoorQ06
import Derived.Test.YtmacebglfniegaaGreatDoorQ07
import Derived.Test.YtmacebglfniegaaGreatDoorQ08
import Derived.Test.YtmacebglfniegaaGreatDoorQ10
import Derived.Laws.AppendOwnNone
import Derived.Laws.OwnMore
import Derived.Deep.RegionHeld3
import Derived.Test.YtmacebglfniegaaGreatDoorProg
import Derived.WalkKit
import Derived.WalkSpells
import Derived.BigQuiet
import Derived.Lib.Hide
import Derived.Laws.BitsAllLaws
namespace Go.Proofs.YtmacebglfniegaaGreatDoor
set_option maxRecDepth 100000

/-- The first of two places of which it holds, or -1. -/
def pickP (b0 b1 : Bool) : Int := if b0 = true then 0 else if b1 = true then 1 else -1
/-- Which copy is loaded, by the bytes at both places. -/
def lead0 (r g : Int) (x y : List Nat) : Bool := decide (stM x r g 0 = 1) && decide (mfl y r g 1 3 ≤ mfl x r g 0 3)
def lead1 (r g : Int) (x y : List Nat) : Bool := decide (stM y r g 1 = 1) && decide (mfl x r g 0 3 ≤ mfl y r g 1 3)
def atC (r g : Int) (x y : List Nat) : Int := pickP (lead0 r g x y) (lead1 r g x y)
def blankC (r g : Int) (x y : List Nat) : Int := pickP (decide (stM x r g 0 = 0)) (decide (stM y r g 1 = 0))
def cellE (r g : Int) (x y : List Nat) : Int := if atC r g x y = -1 ∧ blankC r g x y = -1 then 70 else 0
/-- The version and the body that are loaded; the incarnation. -/
def cellF (r g : Int) (x y : List Nat) (k : Nat) : Nat := if atC r g x y = 0 then mfl x r g 0 k else if atC r g x y = 1 then mfl y r g 1 k else 0
/-- The bytes of a place. -/
def DM.cb (m : DM) (g p : Int) : List Nat := (m.read (firstS g p)).1
/-- What Load answers of a disk that there is. -/
def DM.loadE (m : DM) (r g : Int) : Int := if m.up = false then 5 else cellE r g (m.cb g 0) (m.cb g 1)
def DM.loadV (m : DM) (r g : Int) : Nat := if m.loadE r g = 0 then cellF r g (m.cb g 0) (m.cb g 1) 3 else 0
/-- What put leaves: a frame at a sector, written and flushed. -/
def DM.putC (m : DM) (s : Int) (L : List Nat) : Int × DM := if (m.write s L).1 ≠ 0 then m.write s L else (m.write s L).2.flush
def otherP (p : Int) : Int := 1 - p
/-- The frame that is put. -/
def sealC (r g p : Int) (i c : Nat) (b : List Nat) : List Nat := sealL r g p (i : Int) (c : Int) b 1
/-- The place that is written first. -/
def firstP (r g : Int) (x y : List Nat) : Int := if atC r g x y = 0 then 1 else 0
/-- A frame is put to both places. -/
def DM.puts2 (m : DM) (r g p : Int) (i c : Nat) (b : List Nat) : Int × DM :=
  if (m.putC (firstS g p) (sealC r g p i c b)).1 ≠ 0 then m.putC (firstS g p) (sealC r g p i c b) else (m.putC (firstS g p) (sealC r g p i c b)).2.putC (firstS g (otherP p)) (sealC r g (otherP p) i c b)
def DM.storeE (m : DM) (r g c : Int) (n : Nat) : Int := if c < 1 ∨ 1099511627776 < c then 2 else if 43 < n then 3 else if m.loadE r g ≠ 0 then m.loadE r g else if m.loadV r g = 1099511627776 then 4 else 0
def DM.store (m : DM) (r g c : Int) (b : List Nat) : Int × DM :=
  if m.storeE r g c b.length ≠ 0 then (m.storeE r g c b.length, m) else m.puts2 r g (firstP r g (m.cb g 0) (m.cb g 1)) (m.loadV r g + 1) c.toNat b
end Go.Proofs.YtmacebglfniegaaGreatDoor

namespace Go.Proofs.YtmacebglfniegaaGreatDoor
set_option maxRecDepth 100000

end Go.Proofs.YtmacebglfniegaaGreatDoor

namespace Go.Proofs.YtmacebglfniegaaGreatDoor
set_option maxRecDepth 100000

/-- What a sector holds, as a reader has it. -/
def DM.hold (m : DM) (s : Nat) : List Nat := if m.lost.getD s false = true then [] else m.rest.getD s []
/-- A disk of 156 sectors on which nothing waits, but for down and dead. -/
structure CB (m : DM) (w : List (Nat × List Nat)) : Prop where
  ok : m.Ok
  size : m.size = 156
  waits : m.waits = w
  down : m.down = false
structure CD (m : DM) (pw : Int) : Prop where
  b : CB m []
  dead : m.dead = false
  power : m.power = pw
theorem CD.up {m : DM} {pw : Int} (h : CD m pw) : m.up = true := by unfold DM.up; rw [h.b.down, h.dead]; rfl
theorem CD.has {m : DM} {pw : Int} (h : CD m pw) {s : Nat} (hs : s < 156) : m.has (s : Int) = true := DM.has_iff.2 ⟨by omega, by rw [h.b.size]; omega⟩
theorem CD.read {m : DM} {pw : Int} (h : CD m pw) {s : Nat} (hs : s < 156) : (m.read (s : Int)).1 = m.hold s := by
  unfold DM.read DM.hold
  rw [if_neg (by rw [h.up]; simp), if_neg (by rw [h.has hs]; simp), h.b.waits, Int.toNat_natCast]
  simp only [lastW]
  split <;> rfl
theorem CD.new : CD (DM.new 156) (-1) := ⟨⟨DM.new_ok 156, by simp [DM.new, DM.size], rfl, rfl⟩, rfl, rfl⟩
theorem getD_rep {α : Type} {n s : Nat} {x d : α} (h : s < n) : (List.replicate n x).getD s d = x := by rw [List.getD_eq_getElem?_getD, List.getElem?_replicate, if_pos h]; rfl
theorem new_hold {s : Nat} (hs : s < 156) : (DM.new 156).hold s = z64 := by
  unfold DM.hold DM.new
  rw [if_neg (by rw [getD_rep hs]; simp), getD_rep hs]
theorem hold_comes {m : DM} (h : m.Ok) {l : List (Nat × List Nat)} (hl : ∀ x ∈ l, x.1 < m.size) (t : Nat) : (m.comes l).hold t = (lastW l t).getD (m.hold t) := by
  obtain ⟨h1, _, h3⟩ := comes_get l m h hl t
  unfold DM.hold
  rw [h1, h3]
  cases lastW l t <;> simp
section
variable {m : DM} {pw : Int} {s : Nat} {L : List Nat}
theorem CD.write1 (h : CD m pw) (hp : pw ≠ 0) (hs : s < 156) (hL : Sect L) : m.write (s : Int) L = (0, { m with power := lessP pw, waits := [(s, L)] }) := by
  unfold DM.write
  rw [if_neg (by rw [h.up]; simp), if_neg (by rw [h.has hs, hL.1]; simp), if_neg (by rw [h.power]; exact hp), h.power, h.b.waits, Int.toNat_natCast]
  rfl
theorem CD.waiting (h : CD m pw) (hs : s < 156) (hL : Sect L) (q : Int) (hq : -1 ≤ q) : ({ m with power := q, waits := [(s, L)] } : DM).Ok :=
  ⟨h.b.ok.meant, h.b.ok.lost, h.b.ok.rests, h.b.ok.means, fun x hx => by
    simp only [List.mem_singleton] at hx
    subst hx
    exact ⟨by show s < m.size; rw [h.b.size]; exact hs, hL⟩, hq⟩
theorem CD.put2 (h : CD m pw) (hp : pw = -1 ∨ 2 ≤ pw) (hs : s < 156) (hL : Sect L) : ∃ m', m.putC (s : Int) L = (0, m') ∧ CD m' (lessP (lessP pw)) ∧ ∀ t, m'.hold t = if t = s then L else m.hold t := by
  have hp1 : lessP pw = -1 ∨ 1 ≤ lessP pw := by unfold lessP; split <;> omega
  have hu : ({ m with power := lessP pw, waits := [(s, L)] } : DM).up = true := by unfold DM.up; show (!(m.down || m.dead)) = true; rw [h.b.down, h.dead]; rfl
  have hok := h.waiting hs hL (lessP pw) (by omega)
  have hok2 : ({ m with power := lessP (lessP pw), waits := [(s, L)] } : DM).Ok := h.waiting hs hL _ (by unfold lessP at hp1 ⊢; omega)
  obtain ⟨w1, w2, w3, w4⟩ := DM.comes_waits [(s, L)] ({ m with power := lessP (lessP pw), waits := [(s, L)] } : DM)
  refine ⟨{ ({ m with power := lessP (lessP pw), waits := [(s, L)] } : DM).comes [(s, L)] with waits := [] }, ?_, ⟨⟨?_, ?_, rfl, ?_⟩, ?_, ?_⟩, fun t => ?_⟩
  · unfold DM.putC
    rw [h.write1 (by omega) hs hL, if_neg (by simp)]
    unfold DM.flush
    rw [if_neg (by rw [hu]; simp), if_neg (by show ¬ lessP pw = 0; omega)]
  · exact DM.clear_ok (DM.comes_ok _ hok2 fun x hx => (hok2.waits x hx).2)
  · show (DM.comes _ _).size = 156
    rw [DM.comes_size]
    exact h.b.size
  · exact w2.trans h.b.down
  · exact w3.trans h.dead
  · exact w4
  · show (DM.comes _ _).hold t = _
    rw [hold_comes hok2 (fun x hx => (hok2.waits x hx).1)]
    show ((none : Option (List Nat)).or (if s = t then some L else none)).getD _ = _
    by_cases hst : s = t
    · subst hst; simp
    · rw [if_neg hst, if_neg (fun e => hst e.symm)]; rfl
end
/-- Frames are put to two sectors. -/
def DM.two (m : DM) (a b : Nat) (La Lb : List Nat) : Int × DM := if (m.putC (a : Int) La).1 ≠ 0 then m.putC (a : Int) La else (m.putC (a : Int) La).2.putC (b : Int) Lb
section
variable {m : DM} {pw : Int} {a b : Nat} {La Lb : List Nat}
end
end Go.Proofs.YtmacebglfniegaaGreatDoor

namespace Go.Proofs.YtmacebglfniegaaGreatDoor
set_option maxRecDepth 100000

/-- A sector is hurt: lost, or other at rest than meant. -/
def DM.hurt (m : DM) (s : Int) : Bool := (m.at_ s).2.1 || !decide ((m.at_ s).1 = (m.means s).1)
/-- Those of n sectors from a on that are hurt. -/
def hurtsIn (h : Int → Bool) (a : Int) (n : Nat) : List Int := ((List.range n).map fun k => a + ((k : Nat) : Int)).filter h
theorem hurtsIn_mem {h : Int → Bool} {a : Int} {n : Nat} {s : Int} : s ∈ hurtsIn h a n ↔ h s = true ∧ a ≤ s ∧ s < a + n := by
  unfold hurtsIn
  rw [List.mem_filter, List.mem_map]
  constructor
  · rintro ⟨⟨k, hk, rfl⟩, hh⟩
    rw [List.mem_range] at hk
    exact ⟨hh, by omega, by omega⟩
  · rintro ⟨hh, h1, h2⟩
    exact ⟨⟨(s - a).toNat, by rw [List.mem_range]; omega, by omega⟩, hh⟩
/-- Is any of n sectors from a on? -/
def anyIn (h : Int → Bool) (a : Int) (n : Nat) : Bool := (List.range n).any fun k => h (a + ((k : Nat) : Int))
theorem anyIn_iff {h : Int → Bool} {a : Int} {n : Nat} : anyIn h a n = true ↔ ∃ s, h s = true ∧ a ≤ s ∧ s < a + n := by
  unfold anyIn
  rw [List.any_eq_true]
  constructor
  · rintro ⟨k, hk, hh⟩
    rw [List.mem_range] at hk
    exact ⟨_, hh, by omega, by omega⟩
  · rintro ⟨s, hh, h1, h2⟩
    refine ⟨(s - a).toNat, by rw [List.mem_range]; omega, ?_⟩
    rw [show a + (((s - a).toNat : Nat) : Int) = s by omega]
    exact hh
theorem anyIn_zero (h : Int → Bool) (a : Int) : anyIn h a 0 = false := rfl
theorem anyIn_succ (h : Int → Bool) (a : Int) (n : Nat) : anyIn h a (n + 1) = (anyIn h a n || h (a + (n : Int))) := by
  unfold anyIn
  rw [List.range_succ, List.any_append]
  simp
/-- The bytes of n sectors from a on. -/
def catS (f : Int → List Nat) (a : Int) : Nat → List Nat
  | 0 => []
  | n + 1 => catS f a n ++ f (a + (n : Int))
/-- What a place has at rest, what it is meant to have, whether one of its sectors is lost. -/
def DM.restL (m : DM) (a : Int) (n : Nat) : List Nat := catS (fun s => (m.at_ s).1) a n
def DM.lostB (m : DM) (a : Int) (n : Nat) : Bool := anyIn (fun s => (m.at_ s).2.1) a n
theorem unhurt {m : DM} {s : Int} (h : m.hurt s = false) : (m.at_ s).2.1 = false ∧ (m.at_ s).1 = (m.means s).1 := by
  unfold DM.hurt at h
  rw [Bool.or_eq_false_iff] at h
  exact ⟨h.1, by simpa using h.2⟩
end Go.Proofs.YtmacebglfniegaaGreatDoor

namespace Go.Proofs.YtmacebglfniegaaGreatDoor
set_option maxRecDepth 100000
open Go Go.RowKit

theorem sectors_any (p q : Nat) (w : World) (h : p * q ≤ 9000000000000000000) :
    Calls Tryz.prog 135 #[.agg #[.int .i64 p, .int .i64 q]] w fun e w' => e = .returned (.int .i64 (p * q : Nat)) ∧ Ext w w' := by
  have h' : ((p : Int) * (q : Int)) = ((p * q : Nat) : Int) := by simp
  have HM := Lib.hid h'
  have h0 : (0 : Int) ≤ (p : Int) * (q : Int) := by rw [h']; omega
  have h1 : (p : Int) * (q : Int) ≤ 9000000000000000000 := by rw [h']; omega
  clear h h'
  go_enter Tryz.func135, Tryz.ntmps135
  go_wp2
  go_ret
  exact ⟨by rw [← HM.out]; rfl, (Ext.refl w).alloc _⟩

end Go.Proofs.YtmacebglfniegaaGreatDoor

namespace Go.Proofs.YtmacebglfniegaaGreatDoor
set_option maxRecDepth 100000
open Go Go.RowKit

set_option maxHeartbeats 800000 in
theorem start_any (r : Nat) (w : World) (hL : LaidT w) (hr : r ≤ 6) :
    Calls Tryz.prog 84 #[.int .i64 r] w fun e w' => e = .returned (.int .i64 (beg r)) ∧ Ext w w' := by
  have HL := Lib.hid hL
  clear hL
  go_enter Tryz.func84, Tryz.ntmps84
  go_wp2_with fail
  go_loopw [3, 6] (fun b i wr => ∃ k : Nat, k ≤ r ∧ i = .int .i64 k ∧ b = .int .i64 (beg k) ∧ Hid (Ext w wr)) (fun _ i _ => r - (intOf i).toNat)
  case atStart => exact ⟨0, Nat.zero_le _, rfl, rfl, Lib.hid (Ext.refl w)⟩
  case round =>
    obtain ⟨k, hk, rfl, rfl, HX⟩ := hrel
    by_cases hlt : k < r
    · have HB := Lib.hid (beg_next k (by omega))
      have hb := beg_le k
      have hp := plc_wid k
      go_wp2_with fail
      refine (find_any k _ (HL.out.ext HX.out)).mono ?_
      rintro e w1 ⟨rfl, hx⟩
      have HX := Lib.hid (HX.out.trans hx)
      clear hx
      go_wp2_with fail
      refine (sectors_any _ _ _ (by omega)).mono ?_
      rintro e w2 ⟨rfl, hx⟩
      have HX := Lib.hid (HX.out.trans hx)
      clear hx
      go_wp2_with fail
      go_roundw
      case rel => exact ⟨k + 1, by omega, by go_num, by rw [show ((k + 1 : Nat) : Int) = (k : Int) + 1 from rfl, HB.out]; go_num, HX⟩
      case measure => simp [intOf]; omega
    · have HK : Hid (k = r) := Lib.hid (by omega)
      go_wp2_with fail
      go_ret
      exact ⟨by rw [HK.out]; rfl, HX.out⟩

theorem all_any (w : World) (hL : LaidT w) :
    Calls Tryz.prog 40 #[] w fun e w' => e = .returned (.int .i64 156) ∧ Ext w w' := by
  have HL := Lib.hid hL
  clear hL
  go_enter Tryz.func40, Tryz.ntmps40
  go_wp2_with fail
  refine (start_any 6 _ HL.out (by omega)).mono ?_
  rintro e w1 ⟨rfl, hx⟩
  have HX := Lib.hid hx
  clear hx
  go_wp2_with fail
  go_ret
  exact ⟨rfl, HX.out⟩

end Go.Proofs.YtmacebglfniegaaGreatDoor

namespace Go.Proofs.YtmacebglfniegaaGreatDoor
set_option maxRecDepth 100000
open Go Go.RowKit

theorem isHurt_of {w : World} {d : Nat} {F : Nat → Prop} {m : DM} (h : PDisk w d F m) (s : Int) :
    Calls Tryz.prog 134 #[.pointer (some ⟨d, 0, none⟩), .int .i64 s] w fun e w' => e = .returned (.bool (m.hurt s)) ∧ Ext w w' := by
  have H := Lib.hid h
  have hr := rest_pd h s
  obtain ⟨l, hl⟩ : ∃ l, (m.at_ s).1 = l := ⟨_, rfl⟩
  obtain ⟨lb, hlb⟩ : ∃ lb, (m.at_ s).2.1 = lb := ⟨_, rfl⟩
  obtain ⟨E, hE⟩ : ∃ E, (m.at_ s).2.2 = E := ⟨_, rfl⟩
  obtain ⟨l2, hl2⟩ : ∃ l, (m.means s).1 = l := ⟨_, rfl⟩
  obtain ⟨E2, hE2⟩ : ∃ E, (m.means s).2 = E := ⟨_, rfl⟩
  have HH : Hid (m.hurt s = (lb || !decide (l = l2))) := Lib.hid (by unfold DM.hurt; rw [hl, hlb, hl2])
  have hm : ∀ w', Ext w w' → Calls Tryz.prog 170 #[.pointer (some ⟨d, 0, none⟩), .int .i64 s] w' fun e w'' => ∃ A n, e = .returned (.tuple #[.slice A n n, .int .i64 E2]) ∧ New w'.heap.size w'' A n l2 ∧ Ext w' w'' := fun w' hx => by
    have := meant_pd (h.ext hx) s
    rwa [hl2, hE2] at this
  rw [hl, hlb, hE] at hr
  have HR := Lib.hid hr
  have HM := Lib.hid hm
  clear h hr hl hlb hE hl2 hE2 hm H
  go_enter Tryz.func134, Tryz.ntmps134
  go_wp2_with fail
  refine HR.out.mono ?_
  rintro e w1 ⟨A, n, rfl, hnew, hx⟩
  have HB := Lib.hid hnew.by
  have HX := Lib.hid hx
  clear hnew hx
  go_wp2_with fail
  refine (HM.out _ HX.out).mono ?_
  rintro e w2 ⟨A2, n2, rfl, hnew, hx⟩
  have HB2 := Lib.hid hnew.by
  have HB := Lib.hid (HB.out.ext hx)
  have HX := Lib.hid (HX.out.trans hx)
  clear hnew hx
  cases lb with
  | true =>
    go_wp2_with fail
    go_ret
    exact ⟨by rw [HH.out]; rfl, HX.out⟩
  | false =>
    go_wp2_with fail
    refine (equal_by A A2 l l2 n n2 n n2 _ HB.out HB2.out).mono ?_
    rintro e w3 ⟨rfl, rfl⟩
    go_wp2_with fail
    go_ret
    exact ⟨by rw [HH.out]; rfl, HX.out⟩

/-- What Size answers of a pointer, now and later. -/
def Sized (w : World) (p : Option Addr) (sz : Nat) : Prop := ∀ w', Ext w w' → Calls Tryz.prog 39 #[.pointer p] w' fun e w'' => e = .returned (.int .i64 (sz : Nat)) ∧ w' = w''
theorem Sized.ext {w w' : World} {p : Option Addr} {sz : Nat} (h : Sized w p sz) (k : Ext w w') : Sized w' p sz := fun _ hx => h _ (k.trans hx)
theorem Sized.of {w : World} {d : Nat} {F : Nat → Prop} {m : DM} (h : PDisk w d F m) : Sized w (some ⟨d, 0, none⟩) m.size := fun _ hx => size_pd (h.ext hx)

end Go.Proofs.YtmacebglfniegaaGreatDoor

namespace Go.Proofs.YtmacebglfniegaaGreatDoor
set_option maxRecDepth 100000
open Go Go.RowKit Go.ChangeShapes Go.WideShapes Go.Deep

/-- An act: is a frame written; its tag; its body; else an act of a disk. -/
structure Act6 where
  sl : Bool := false
  ta : Int := 0
  tb : Int := 0
  tc : Int := 0
  td : Int := 0
  te : Int := 0
  bA : Option Addr := none
  bn : Nat := 0
  bc : Nat := 0
  bl : List Nat := []
  act : Act5 := {}
instance : Inhabited Act6 := ⟨{}⟩
def Act6.cells (x : Act6) : List Value := [.bool x.sl, .int .i64 x.ta, .int .i64 x.tb, .int .i64 x.tc, .int .i64 x.td, .int .i64 x.te, .slice x.bA x.bn x.bc, .int .u8 (x.act.kind : Int), .int .i64 x.act.sec, .int .i64 x.act.num, .slice x.act.bA x.act.bn x.act.bc, .slice x.act.kA x.act.kn x.act.kc]
structure Act6.Ok (x : Act6) (w : World) (B : Nat) : Prop where
  body : Bs w B x.bA x.bn x.bc x.bl
  act : x.act.Ok w B
theorem Act6.Ok.below {a : Act6} {w w' : World} {B : Nat} (h : a.Ok w B) (hb : Below B w w') : a.Ok w' B := ⟨h.body.below hb, h.act.below hb⟩
theorem Act6.Ok.more {a : Act6} {w : World} {B B' : Nat} (h : a.Ok w B) (hB : B ≤ B') : a.Ok w B' := ⟨h.body.more hB, h.act.more hB⟩

structure Acts6 (w : World) (B : Nat) (A : Option Addr) (n c : Nat) (l : List Act6) : Prop where
  len : l.length = n
  cap : n ≤ c
  most : c ≤ 9223372036854775807
  each : ∀ a ∈ l, a.Ok w B
  rd : 0 < n → ∃ g o, A = some ⟨g, o, none⟩ ∧ g < B ∧ ∀ j a, l[j]? = some a → ∀ k v, a.cells[k]? = some v → w.cell? ⟨g, o + (j * 12 + k), none⟩ = some v
  nil_ : A = none → c = 0
theorem Acts6.below {w w' : World} {B : Nat} {A : Option Addr} {n c : Nat} {l : List Act6} (h : Acts6 w B A n c l) (hb : Below B w w') : Acts6 w' B A n c l :=
  ⟨h.len, h.cap, h.most, fun a ha => (h.each a ha).below hb, fun hn => by
    obtain ⟨g, o, e, hg, hc⟩ := h.rd hn
    exact ⟨g, o, e, hg, fun j a ha k v hv => (hb.cell (p := ⟨g, o + (j * 12 + k), none⟩) hg).trans (hc j a ha k v hv)⟩, h.nil_⟩
theorem Acts6.more {w : World} {B B' : Nat} {A : Option Addr} {n c : Nat} {l : List Act6} (h : Acts6 w B A n c l) (hB : B ≤ B') : Acts6 w B' A n c l :=
  ⟨h.len, h.cap, h.most, fun a ha => (h.each a ha).more hB, fun hn => by
    obtain ⟨g, o, e, hg, hc⟩ := h.rd hn
    exact ⟨g, o, e, by omega, hc⟩, h.nil_⟩
/-- The cells of the act at a place of the list. -/
def Cells12 (w : World) (g o : Nat) (x : Act6) : Prop :=
  w.cell? ⟨g, o, none⟩ = some (.bool x.sl) ∧ w.cell? ⟨g, o + 1, none⟩ = some (.int .i64 x.ta) ∧ w.cell? ⟨g, o + 2, none⟩ = some (.int .i64 x.tb) ∧ w.cell? ⟨g, o + 3, none⟩ = some (.int .i64 x.tc) ∧ w.cell? ⟨g, o + 4, none⟩ = some (.int .i64 x.td) ∧ w.cell? ⟨g, o + 5, none⟩ = some (.int .i64 x.te) ∧
  w.cell? ⟨g, o + 6, none⟩ = some (.slice x.bA x.bn x.bc) ∧ w.cell? ⟨g, o + 7, none⟩ = some (.int .u8 (x.act.kind : Int)) ∧ w.cell? ⟨g, o + 8, none⟩ = some (.int .i64 x.act.sec) ∧ w.cell? ⟨g, o + 9, none⟩ = some (.int .i64 x.act.num) ∧
  w.cell? ⟨g, o + 10, none⟩ = some (.slice x.act.bA x.act.bn x.act.bc) ∧ w.cell? ⟨g, o + 11, none⟩ = some (.slice x.act.kA x.act.kn x.act.kc)
theorem Cells12.below {w w' : World} {B g o : Nat} {x : Act6} (h : Cells12 w g o x) (hb : Below B w w') (hg : g < B) : Cells12 w' g o x := by
  obtain ⟨h0, h1, h2, h3, h4, h5, h6, h7, h8, h9, h10, h11⟩ := h
  exact ⟨(hb.cell (p := ⟨g, o, none⟩) hg).trans h0, (hb.cell (p := ⟨g, o + 1, none⟩) hg).trans h1, (hb.cell (p := ⟨g, o + 2, none⟩) hg).trans h2, (hb.cell (p := ⟨g, o + 3, none⟩) hg).trans h3, (hb.cell (p := ⟨g, o + 4, none⟩) hg).trans h4, (hb.cell (p := ⟨g, o + 5, none⟩) hg).trans h5,
    (hb.cell (p := ⟨g, o + 6, none⟩) hg).trans h6, (hb.cell (p := ⟨g, o + 7, none⟩) hg).trans h7, (hb.cell (p := ⟨g, o + 8, none⟩) hg).trans h8, (hb.cell (p := ⟨g, o + 9, none⟩) hg).trans h9, (hb.cell (p := ⟨g, o + 10, none⟩) hg).trans h10, (hb.cell (p := ⟨g, o + 11, none⟩) hg).trans h11⟩
theorem Acts6.at_ {w : World} {B : Nat} {A : Option Addr} {n c : Nat} {l : List Act6} (h : Acts6 w B A n c l) {j : Nat} (hj : j < n) : ∃ g o a, A = some ⟨g, o, none⟩ ∧ g < B ∧ l[j]? = some a ∧ a.Ok w B ∧ Cells12 w g (o + j * 12) a := by
  obtain ⟨g, o, e, hg, hc⟩ := h.rd (by omega)
  have hj' : j < l.length := by rw [h.len]; exact hj
  have ha : l[j]? = some l[j] := List.getElem?_eq_getElem hj'
  have cell := fun (k : Nat) (v : Value) (hv : (l[j]).cells[k]? = some v) => hc j _ ha k v hv
  exact ⟨g, o, l[j], e, hg, ha, h.each _ (List.getElem_mem hj'), cell 0 _ rfl, cell 1 _ rfl, cell 2 _ rfl, cell 3 _ rfl, cell 4 _ rfl, cell 5 _ rfl, cell 6 _ rfl, cell 7 _ rfl, cell 8 _ rfl, cell 9 _ rfl, cell 10 _ rfl, cell 11 _ rfl⟩

section
variable {H : Type} {enc : TypeId × Value → H} {P : Program} {w : World} {base : Nat} {spare : Nat → Bool} {held : Bool}

end
end Go.Proofs.YtmacebglfniegaaGreatDoor

namespace Go.Proofs.YtmacebglfniegaaGreatDoor
set_option maxRecDepth 100000
open Go Go.RowKit

end Go.Proofs.YtmacebglfniegaaGreatDoor

namespace Go.Proofs.YtmacebglfniegaaGreatDoor
set_option maxRecDepth 100000
open Go Go.RowKit

theorem PDisk.wide {w : World} {d : Nat} {F G : Nat → Prop} {m : DM} (h : PDisk w d F m) (hF : ∀ k, F k → G k) (hG : ∀ k, G k → k < w.heap.size) : PDisk w d G m := by
  obtain ⟨g, pv, h1, h2, _⟩ := h
  exact ⟨g, pv, h1, fun k hk => hF k (h2 k hk), hG⟩
theorem Off.mono {F G : Nat → Prop} {A : Option Addr} (h : Off G A) (hF : ∀ k, F k → G k) : Off F A := fun p hp hf => h p hp (hF _ hf)
theorem Act5.Ok.ext {a : Act5} {w w' : World} (h : a.Ok w w.heap.size) (k : Ext w w') : a.Ok w' w'.heap.size := (h.below k).more k.size

end Go.Proofs.YtmacebglfniegaaGreatDoor

namespace Go.Proofs.YtmacebglfniegaaGreatDoor
set_option maxRecDepth 100000
open Go Go.RowKit

/-- The disk at d, all of whose blocks were made since w0; nothing that was there in w0 has been written. -/
structure DK (w0 w : World) (d : Nat) (F : Nat → Prop) (m : DM) : Prop where
  disk : PDisk w d F m
  low : ∀ k, F k → w0.heap.size ≤ k
  bel : Ext w0 w
theorem DK.ext {w0 w w' : World} {d : Nat} {F : Nat → Prop} {m : DM} (h : DK w0 w d F m) (k : Ext w w') : DK w0 w' d F m := ⟨h.disk.ext k, h.low, h.bel.trans k⟩
theorem DK.step {w0 w w' : World} {d : Nat} {F : Nat → Prop} {m m' : DM} (h : DK w0 w d F m) (hp : PDisk w' d (grow F w w') m') (hm : Mod F w w') : DK w0 w' d (grow F w w') m' :=
  ⟨hp, fun k hk => hk.elim (h.low k) fun h2 => Nat.le_trans h.bel.size h2.1, Below.mod h.bel hm h.bel.size h.low⟩
theorem DK.mod {w0 w w' : World} {d : Nat} {F G : Nat → Prop} {m : DM} (h : DK w0 w d F m) (hm : Mod G w w') (hG : ∀ k, F k → ¬ G k) (hl : ∀ k, G k → w0.heap.size ≤ k) : DK w0 w' d F m :=
  ⟨h.disk.mod hm hG, h.low, Below.mod h.bel hm h.bel.size hl⟩
/-- Values that came in lie in none of the disk's blocks. -/
theorem DK.vs {w0 w : World} {d : Nat} {F : Nat → Prop} {m : DM} (h : DK w0 w d F m) {A : Option Addr} {n c : Nat} {vs : List Value} (hv : Vs w0 w0.heap.size A n c vs) : 0 < n → Off F A := fun hn p hp hf => by
  obtain ⟨g, o, e, hg, _⟩ := hv.rd hn
  rw [e] at hp
  injection hp with hp
  subst hp
  have := h.low _ hf
  have hg' : g < w0.heap.size := hg
  have : w0.heap.size ≤ g := this
  omega
/-- What was there in w0 lies in none of the disk's blocks. -/
theorem DK.old {w0 w : World} {d : Nat} {F : Nat → Prop} {m : DM} (h : DK w0 w d F m) {A : Option Addr} (hA : ∀ p, A = some p → p.block < w0.heap.size) : Off F A := fun p hp hf => by
  have := hA p hp
  have := h.low _ hf
  omega
theorem Act5.sector (n : Int) (w : World) (B : Nat) (hn : (Lit.int .i64 n).wf = true) : ({ num := n } : Act5).Ok w B :=
  ⟨by show (0 : Nat) < 256; omega, rfl, hn, ⟨rfl, Nat.le_refl _, by show (0 : Nat) ≤ 9223372036854775807; omega, Rd.nil_, fun _ => rfl⟩, ⟨rfl, Nat.le_refl _, by show (0 : Nat) ≤ 9223372036854775807; omega, fun h => absurd h (by show ¬ (0 < 0); omega), fun _ => rfl⟩⟩
end Go.Proofs.YtmacebglfniegaaGreatDoor

namespace Go.Proofs.YtmacebglfniegaaGreatDoor
set_option maxRecDepth 100000
open Go Go.RowKit

/-- What Great answers. -/
def GreatE (n : Nat) (l : List Act5) (w : World) (e : Ending) (w' : World) : Prop := ∃ b : Bool, e = .returned (.bool b) ∧ w = w' ∧ (b = false → n ≤ 120 ∧ ∀ a ∈ l, a.bn ≤ 200 ∧ a.kn ≤ 100)

set_option maxRecDepth 100000 in
set_option maxHeartbeats 1600000 in
theorem great_of {w : World} {B : Nat} (A : Option Addr) (n c : Nat) (l : List Act5) (h : Acts w B A n c l) :
    Calls Tryz.prog 83 #[.slice A n c] w (GreatE n l w) := by
  have HA := Lib.hid h
  have hn := Nat.zero_le n
  clear h
  go_enter Tryz.func83, Tryz.ntmps83
  by_cases hn120 : 120 < n
  · go_wp2_with fail
    go_ret
    exact ⟨true, rfl, rfl, fun h => by cases h⟩
  go_wp2_with fail
  go_loopw [3] (fun i wr => ∃ k : Nat, k ≤ n ∧ i = .int .i64 k ∧ wr = w ∧ Hid (∀ a ∈ l.take k, a.bn ≤ 200 ∧ a.kn ≤ 100)) (fun i _ => n - (intOf i).toNat)
  case atStart => exact ⟨0, Nat.zero_le _, rfl, rfl, Lib.hid fun a ha => by simp at ha⟩
  case round =>
    obtain ⟨k, hkn, rfl, rfl, HT⟩ := hrel
    by_cases hlt : k < n
    · obtain ⟨g, o, a, rfl, hg, ha, hok, h0, h1, h2, h3, h4⟩ := HA.out.at_ hlt
      have HAL := Lib.hid ha
      by_cases hb : 200 < a.bn
      · clear ha hok
        go_wp2_with fail
        go_ret
        exact ⟨true, rfl, rfl, fun h => by cases h⟩
      · by_cases hk : 100 < a.kn
        · clear ha hok
          go_wp2_with fail
          go_ret
          exact ⟨true, rfl, rfl, fun h => by cases h⟩
        · clear ha hok
          go_wp2_with fail
          go_roundw
          case rel => exact ⟨k + 1, by omega, by go_num, by first | rfl | trivial, Lib.hid fun b hb' => by
            rw [List.take_add_one, HAL.out] at hb'
            rcases List.mem_append.1 hb' with h | h
            · exact HT.out b h
            · simp only [Option.toList_some, List.mem_singleton] at h
              subst h
              exact ⟨by omega, by omega⟩⟩
          case measure => simp [intOf]; omega
    · go_wp2_with fail
      go_ret
      refine ⟨false, rfl, rfl, fun _ => ⟨by omega, fun a ha => HT.out a ?_⟩⟩
      rw [List.take_of_length_le (by have := HA.out.len; omega)]
      exact ha
end Go.Proofs.YtmacebglfniegaaGreatDoor

namespace Go.Proofs.YtmacebglfniegaaGreatDoor
set_option maxRecDepth 100000
open Go Go.RowKit

end Go.Proofs.YtmacebglfniegaaGreatDoor

namespace Go.Proofs.YtmacebglfniegaaGreatDoor
set_option maxRecDepth 100000
open Go Go.RowKit

end Go.Proofs.YtmacebglfniegaaGreatDoor

namespace Go.Proofs.YtmacebglfniegaaGreatDoor
set_option maxRecDepth 100000
open Go Go.RowKit

end Go.Proofs.YtmacebglfniegaaGreatDoor

namespace Go.Proofs.YtmacebglfniegaaGreatDoor
set_option maxRecDepth 100000
open Go Go.RowKit

end Go.Proofs.YtmacebglfniegaaGreatDoor

namespace Go.Proofs.YtmacebglfniegaaGreatDoor
set_option maxRecDepth 100000
open Go Go.RowKit

/-- The sectors of a frame, written one behind the other. -/
def DM.puts (m : DM) (s : Int) (L : List Nat) : Nat → DM
  | 0 => m
  | k + 1 => ((m.puts s L k).write (s + (k : Int)) ((L.drop (64 * k)).take 64)).2
/-- What Great answers of ghost's acts. -/
def Great6E (n : Nat) (l : List Act6) (w : World) (e : Ending) (w' : World) : Prop := ∃ b : Bool, e = .returned (.bool b) ∧ Ext w w' ∧ (b = false → n ≤ 60 ∧ ∀ a ∈ l, a.bn ≤ 100 ∧ a.act.bn ≤ 200 ∧ a.act.kn ≤ 100)
theorem acts_one6 (w : World) (a : Act5) (h : a.Ok w w.heap.size) : Acts (w.alloc (.cells #[.int .u8 (a.kind : Int), .int .i64 a.sec, .int .i64 a.num, .slice a.bA a.bn a.bc, .slice a.kA a.kn a.kc] 48)) (w.alloc (.cells #[.int .u8 (a.kind : Int), .int .i64 a.sec, .int .i64 a.num, .slice a.bA a.bn a.bc, .slice a.kA a.kn a.kc] 48)).heap.size (some ⟨w.heap.size, 0, none⟩) 1 1 [a] := by
  refine ⟨rfl, Nat.le_refl _, by omega, fun b hb => ?_, fun _ => ⟨w.heap.size, 0, rfl, by simp, fun j b hb k v hv => ?_⟩, fun h => by cases h⟩
  · obtain rfl := List.mem_singleton.1 hb
    exact (h.below ((Ext.refl w).alloc _)).more ((Ext.refl w).alloc _).size
  · match j, hb with
    | 0, hb =>
      injection hb with hb
      subst hb
      rw [World.cell?_alloc_new]
      rw [show 0 + (0 * 5 + k) = k by omega]
      exact (List.getElem?_toArray ..).trans hv

set_option maxRecDepth 100000 in
set_option maxHeartbeats 1600000 in
theorem great6_of {w : World} {B : Nat} (hBw : B ≤ w.heap.size) (A : Option Addr) (n c : Nat) (l : List Act6) (h : Acts6 w B A n c l) :
    Calls Tryz.prog 38 #[.slice A n c] w (Great6E n l w) := by
  have HA := Lib.hid h
  have hn := Nat.zero_le n
  have HBW := Lib.hid hBw
  clear h hBw
  go_enter Tryz.func38, Tryz.ntmps38
  by_cases hn120 : 60 < n
  · go_wp2_with fail
    go_ret
    exact ⟨true, rfl, Ext.refl _, fun h => by cases h⟩
  go_wp2_with fail
  go_loopw [3] (fun i wr => ∃ k : Nat, k ≤ n ∧ i = .int .i64 k ∧ Hid (Ext w wr) ∧ Hid (∀ a ∈ l.take k, a.bn ≤ 100 ∧ a.act.bn ≤ 200 ∧ a.act.kn ≤ 100)) (fun i _ => n - (intOf i).toNat)
  case atStart => exact ⟨0, Nat.zero_le _, rfl, Lib.hid (Ext.refl _), Lib.hid fun a ha => by simp at ha⟩
  case round =>
    obtain ⟨k, hkn, rfl, HX, HT⟩ := hrel
    by_cases hlt : k < n
    · obtain ⟨g, o, a, rfl, hg, ha, hok, hc⟩ := HA.out.at_ hlt
      have HAL := Lib.hid ha
      have HOK : Hid (a.act.Ok wr wr.heap.size) := Lib.hid ((hok.act.below (HX.out.mono HBW.out)).more (Nat.le_trans HBW.out HX.out.size))
      obtain ⟨h0, h1, h2, h3, h4, h5, h6, h7, h8, h9, h10, h11⟩ := hc.below (HX.out.mono HBW.out) hg
      by_cases hb : 100 < a.bn
      · clear ha hok hc
        go_wp2_with fail
        go_ret
        exact ⟨true, rfl, HX.out, fun h => by cases h⟩
      · clear ha hok hc h0 h1 h2 h3 h4 h5
        go_wp2_with fail
        refine (great_of _ 1 1 [a.act] (acts_one6 wr a.act HOK.out)).mono ?_
        rintro e w2 ⟨b, rfl, rfl, hgr⟩
        have HX2 := Lib.hid (HX.out.alloc (.cells #[.int .u8 (a.act.kind : Int), .int .i64 a.act.sec, .int .i64 a.act.num, .slice a.act.bA a.act.bn a.act.bc, .slice a.act.kA a.act.kn a.act.kc] 48))
        have HGR := Lib.hid hgr
        clear hgr
        cases b with
        | true =>
          go_wp2_with fail
          go_ret
          exact ⟨true, rfl, HX2.out, fun h => by cases h⟩
        | false =>
          go_wp2_with fail
          go_roundw
          case rel => exact ⟨k + 1, by omega, by go_num, HX2, Lib.hid fun b hb' => by
            rw [List.take_add_one, HAL.out] at hb'
            rcases List.mem_append.1 hb' with h | h
            · exact HT.out b h
            · simp only [Option.toList_some, List.mem_singleton] at h
              subst h
              have := (HGR.out (by trivial)).2 b.act (List.mem_singleton.2 rfl)
              exact ⟨by omega, this.1, this.2⟩⟩
          case measure => simp [intOf]; omega
    · go_wp2_with fail
      go_ret
      refine ⟨false, rfl, HX.out, fun _ => ⟨by omega, fun a ha => HT.out a ?_⟩⟩
      rw [List.take_of_length_le (by have := HA.out.len; omega)]
      exact ha
end Go.Proofs.YtmacebglfniegaaGreatDoor

namespace Go.Proofs.YtmacebglfniegaaGreatDoor
set_option maxRecDepth 100000
open Go Go.RowKit

theorem sealE_zero {a b c d e s : Int} {n : Nat} : sealE a b c d e n s = 0 ↔ roomN s ≠ 0 ∧ mayB a b c d e = true ∧ n ≤ roomN s := by
  constructor
  · intro h
    by_cases h1 : roomN s = 0 ∨ mayB a b c d e = false
    · rw [sealE_arg h1] at h; cases h
    · have h0 : roomN s ≠ 0 := fun hh => h1 (.inl hh)
      have hm : mayB a b c d e = true := by
        by_cases hm : mayB a b c d e = true
        · exact hm
        · exact absurd (.inr (by simpa using hm)) h1
      refine ⟨h0, hm, ?_⟩
      rcases Nat.lt_or_ge (roomN s) n with h2 | h2
      · rw [sealE_long h0 hm h2] at h; cases h
      · exact h2
  · rintro ⟨h0, hm, hn⟩
    exact sealE_yes h0 hm hn
theorem sealL_len {a b c d e s : Int} {body : List Nat} (h : sealE a b c d e body.length s = 0) : (sealL a b c d e body s).length = 64 * s.toNat ∧ 1 ≤ s ∧ s ≤ 2 := by
  obtain ⟨h0, hm, hn⟩ := sealE_zero.1 h
  obtain ⟨S, rfl⟩ := Int.eq_ofNat_of_zero_le (show 0 ≤ s by have := roomN_pos (s := s) (by omega); omega)
  have hfit := room_fits hn (by omega)
  rw [sealL_yes h, Int.toNat_natCast, frameL_len (by rw [pl_yes hm, tagBytes_len]) (by omega) (by omega)]
  omega
theorem sealL_good {a b c d e s : Int} {body : List Nat} (h : sealE a b c d e body.length s = 0) : goodB (sealL a b c d e body s) = true ∧ obl (sealL a b c d e body s) = body ∧ (ofl (sealL a b c d e body s) 0 : Int) = a ∧ (ofl (sealL a b c d e body s) 1 : Int) = b ∧ (ofl (sealL a b c d e body s) 2 : Int) = c ∧ (ofl (sealL a b c d e body s) 3 : Int) = d ∧ (ofl (sealL a b c d e body s) 4 : Int) = e := by
  obtain ⟨h0, hm, hn⟩ := sealE_zero.1 h
  obtain ⟨S, rfl⟩ := Int.eq_ofNat_of_zero_le (show 0 ≤ s by have := roomN_pos (s := s) (by omega); omega)
  obtain ⟨a, b, c, d, e, rfl, rfl, rfl, rfl, rfl⟩ := may_nat hm
  have hb88 := roomN_le (S : Int)
  rw [sealL_yes h, Int.toNat_natCast, pl_yes hm]
  simp only [Int.toNat_natCast]
  have hg := seal_good (S := S) hm hn (by omega)
  have hr := (PV_tag hm).2
  rw [ofl_yes hg, ofl_yes hg, ofl_yes hg, ofl_yes hg, ofl_yes hg, obl_yes hg, read_tag (tagBytes_len a b c d e), read_body (tagBytes_len a b c d e) (by omega), hr 0 (by omega), hr 1 (by omega), hr 2 (by omega), hr 3 (by omega), hr 4 (by omega)]
  exact ⟨hg, rfl, rfl, rfl, rfl, rfl, rfl⟩
theorem sealL_lt {a b c d e s : Int} {body : List Nat} (hb : ∀ x ∈ body, x < 256) : ∀ x ∈ sealL a b c d e body s, x < 256 := by
  by_cases h : sealE a b c d e body.length s = 0
  · rw [sealL_yes h]
    refine frameL_lt hb ?_
    rw [pl_yes (sealE_zero.1 h).2.1]
    exact tagBytes_lt _ _ _ _ _
  · rw [sealL_no h]
    simp

end Go.Proofs.YtmacebglfniegaaGreatDoor

namespace Go.Proofs.YtmacebglfniegaaGreatDoor
set_option maxRecDepth 100000
open Go Go.RowKit

/-- What a disk's calls have left behind. -/
structure Left (w0 w : World) (d : Nat) (F : Nat → Prop) (G : Nat → Prop) (v : World) (m : DM) : Prop where
  dk : DK w0 v d F m
  le : ∀ i, F i → G i
  mod : Mod G w v
theorem Left.step {w0 w v v' : World} {d : Nat} {F G : Nat → Prop} {m m' : DM} (h : Left w0 w d F G v m) (hG : ∀ i, v.heap.size ≤ i → G i) (hp : PDisk v' d (grow F v v') m') (hm : Mod F v v') : Left w0 w d (grow F v v') G v' m' :=
  ⟨h.dk.step hp hm, fun i hi => hi.elim (h.le i) fun hh => hG i hh.1, h.mod.trans hm fun i hi => .inl (h.le i hi)⟩
theorem Left.ext {w0 w v v' : World} {d : Nat} {F G : Nat → Prop} {m : DM} (h : Left w0 w d F G v m) (hx : Ext v v') : Left w0 w d F G v' m := ⟨h.dk.ext hx, h.le, h.mod.ext hx⟩

end Go.Proofs.YtmacebglfniegaaGreatDoor

namespace Go.Proofs.YtmacebglfniegaaGreatDoor
set_option maxRecDepth 100000
open Go Go.RowKit

/-- A disk that is up, and has power for some writes. -/
structure Ready (m : DM) (j : Nat) : Prop where
  up : m.up = true
  size : m.size = 156
  power : m.power = -1 ∨ (j : Int) ≤ m.power
theorem Ready.write {m : DM} {j : Nat} (h : Ready m (j + 1)) {s : Int} (h0 : 0 ≤ s) (h1 : s < 156) {b : List Nat} (hb : b.length = 64) : m.write s b = (0, { m with power := lessP m.power, waits := m.waits ++ [(s.toNat, b)] }) ∧ Ready (m.write s b).2 j := by
  have hh : m.has s = true := DM.has_iff.2 ⟨h0, by rw [h.size]; exact h1⟩
  have hp0 : m.power ≠ 0 := by rcases h.power with h | h <;> omega
  have e : m.write s b = (0, { m with power := lessP m.power, waits := m.waits ++ [(s.toNat, b)] }) := by
    unfold DM.write
    rw [if_neg (by rw [h.up]; simp), if_neg (by rw [hh, hb]; simp), if_neg hp0]
  refine ⟨e, ?_⟩
  rw [e]
  refine ⟨h.up, h.size, ?_⟩
  show lessP m.power = -1 ∨ _ ≤ lessP m.power
  unfold lessP
  rcases h.power with hp | hp
  · left; rw [hp]; decide
  · right; rw [if_pos (by omega)]; omega
theorem Ready.flush {m : DM} {j : Nat} (h : Ready m (j + 1)) : m.flush = (0, { ({ m with power := lessP m.power } : DM).comes m.waits with waits := [] }) := by
  have hp0 : m.power ≠ 0 := by rcases h.power with h | h <;> omega
  unfold DM.flush
  rw [if_neg (by rw [h.up]; simp), if_neg hp0]
theorem Ready.puts {m : DM} {S : Int} {L : List Nat} {W j : Nat} (h : Ready m (j + W)) (h0 : 0 ≤ S) (h1 : S + W ≤ 156) (hl : L.length = 64 * W) : ∀ k, k ≤ W → Ready (m.puts S L k) (j + W - k) := by
  intro k
  induction k with
  | zero => intro _; exact h
  | succ k ih =>
    intro hk
    have hr := ih (by omega)
    rw [show j + W - k = (j + W - (k + 1)) + 1 by omega] at hr
    exact (hr.write (s := S + (k : Int)) (by omega) (by omega) (b := (L.drop (64 * k)).take 64) (by rw [List.length_take, List.length_drop]; omega)).2

/-- What put leaves: the frame's sectors, written and flushed. -/
def DM.put (m : DM) (s : Int) (L : List Nat) (W : Nat) : DM := (m.puts s L W).flush.2

end Go.Proofs.YtmacebglfniegaaGreatDoor

namespace Go.Proofs.YtmacebglfniegaaGreatDoor
set_option maxRecDepth 100000
open Go Go.RowKit

/-- What the observers gather, sector by sector: a row of the call's own. -/
structure Gath (w0 w : World) (v : Value) (l : List Nat) (k : Nat) : Prop where
  own : w.ownsRow w0.heap.size 5 1 v l.length (vb l)
  lt : ∀ b ∈ l, b < 256
  few : l.length ≤ 64 * k
  ext : Ext w0 w
theorem Gath.start (w : World) : Gath w w (.slice none 0 0) [] 0 := ⟨World.ownsRow_nil _ _ _ _, fun b hb => (by cases hb), by simp, Ext.refl w⟩
theorem Gath.more {w0 w w' : World} {v : Value} {l : List Nat} {k : Nat} (h : Gath w0 w v l k) (hx : Ext w w') : Gath w0 w' v l k := ⟨own_ext h.own hx, h.lt, h.few, h.ext.trans hx⟩
/-- A hurt place is detectable: one of its sectors is lost, or its bytes are bad there. -/
def DM.badB (m : DM) (r g p : Int) : Bool := m.lostB (firstS g p) (wid g) || decide (stM (m.restL (firstS g p) (wid g)) r g p = 2)
end Go.Proofs.YtmacebglfniegaaGreatDoor

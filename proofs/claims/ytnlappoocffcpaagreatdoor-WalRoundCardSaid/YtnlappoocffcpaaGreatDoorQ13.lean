/-
  Plain facts on a disk with cells on it: what puts leave, with power or without; what is loaded then.
  Plain facts on what is hurt, without any program: sectors, places.
  The contract of the program's Wide and sectors.
  The contracts of the tag functions that reckon sectors: start, First, All, Where.
  The contracts of the observers' small functions: isHurt, known, knownPlace, restBytes, meantBytes, isBad.
  Lists of ghost's acts (a bool, a tag, a list of bytes, an act of a disk) that came in, opened: what their cells hold.
  The contract of the statements' Sector: what an act writes.
  The contract of the statements' Do: an act at the program's disk.
  The contracts of the statements' reads and Great; a disk since a world.
  The contract of the statements' Great; a round of Do over a list of acts that came in.
  The contract of the frame statements' own first look at the chapter's examples: it answers true and writes nothing that was there.
  The contract of the document's own shifting of a bit.
  The contracts of the document's own checksum: bytes.
  The contract of the document's own Seal.
  The contracts of the ghost statements' wide and Great; what an act does to a disk, in plain words.
  The contract of the statements' own 'sealed': a frame in one sector or in two, and whether there is one.
  The contract of the ghost statements' Do.
  The contracts of the ghost statements' Do, for any act, and of put.
  The contracts of restBytes, meantBytes and isBad.
  Plain facts that the ghost statements' walks come to: disks without faults; faults leave what is meant; what put leaves.
  The contract of Honest.
  Plain facts for GhostHealed and GhostHonest: a disk that is taken up again; what Mine tells of a frame that was written.
  Plain facts on slots, without any program: puts that end anywhere leave a slot as it was, or intact by the new ballot.
  Plain facts on logs, without any program: what is read of a slot's places, what a put leaves of a disk.
  The contracts of a log's small calls: made, isWithin, known, running, Snap, Cut, the places of an index, cmp.Or at errors.
-/
import Derived.Test.YtnlappoocffcpaaGreatDoorQ01
import Derived.Test.YtnlappoocffcpaaGreatDoorQ02
import Derived.Test.YtnlappoocffcpaaGreatDoorQ04
import Derived.Test.YtnlappoocffcpaaGreatDoorQ05
import Derived.Test.YtnlappoocffcpaaGreatDoorQ06
import Derived.Test.YtnlappoocffcpaaGreatDoorQ07
import Derived.Test.YtnlappoocffcpaaGreatDoorQ08
import Derived.Test.YtnlappoocffcpaaGreatDoorQ12
import Derived.Laws.AppendOwnNone
import Derived.Laws.OwnMore
import Derived.Deep.RegionHeld3
import Derived.Test.YtnlappoocffcpaaGreatDoorProg
import Derived.WalkKit
import Derived.WalkSpells
import Derived.BigQuiet
import Derived.Lib.Hide
import Derived.Laws.BitsAllLaws
namespace Go.Proofs.YtnlappoocffcpaaGreatDoor
set_option maxRecDepth 100000
def DM.hold (m : DM) (s : Nat) : List Nat := if m.lost.getD s false = true then [] else m.rest.getD s []
structure CB (m : DM) (w : List (Nat × List Nat)) : Prop where
  ok : m.Ok
  size : m.size = 156
  waits : m.waits = w
  down : m.down = false
structure CD (m : DM) (pw : Int) : Prop where
  b : CB m []
  dead : m.dead = false
  power : m.power = pw
theorem CD.up {m : DM} {pw : Int} (h : CD m pw) : m.up = true := by unfold DM.up; rw [h.b.down, h.dead]; rfl
theorem CD.has {m : DM} {pw : Int} (h : CD m pw) {s : Nat} (hs : s < 156) : m.has (s : Int) = true := DM.has_iff.2 ⟨by omega, by rw [h.b.size]; omega⟩
theorem CD.read {m : DM} {pw : Int} (h : CD m pw) {s : Nat} (hs : s < 156) : (m.read (s : Int)).1 = m.hold s := by
  unfold DM.read DM.hold
  rw [if_neg (by rw [h.up]; simp), if_neg (by rw [h.has hs]; simp), h.b.waits, Int.toNat_natCast]
  simp only [lastW]
  split <;> rfl
theorem CD.new : CD (DM.new 156) (-1) := ⟨⟨DM.new_ok 156, by simp [DM.new, DM.size], rfl, rfl⟩, rfl, rfl⟩
theorem getD_rep {α : Type} {n s : Nat} {x d : α} (h : s < n) : (List.replicate n x).getD s d = x := by rw [List.getD_eq_getElem?_getD, List.getElem?_replicate, if_pos h]; rfl
theorem new_hold {s : Nat} (hs : s < 156) : (DM.new 156).hold s = z64 := by
  unfold DM.hold DM.new
  rw [if_neg (by rw [getD_rep hs]; simp), getD_rep hs]
theorem hold_comes {m : DM} (h : m.Ok) {l : List (Nat × List Nat)} (hl : ∀ x ∈ l, x.1 < m.size) (t : Nat) : (m.comes l).hold t = (lastW l t).getD (m.hold t) := by
  obtain ⟨h1, _, h3⟩ := comes_get l m h hl t
  unfold DM.hold
  rw [h1, h3]
  cases lastW l t <;> simp
section
variable {m : DM} {pw : Int} {s : Nat} {L : List Nat}
theorem CD.write1 (h : CD m pw) (hp : pw ≠ 0) (hs : s < 156) (hL : Sect L) : m.write (s : Int) L = (0, { m with power := lessP pw, waits := [(s, L)] }) := by
  unfold DM.write
  rw [if_neg (by rw [h.up]; simp), if_neg (by rw [h.has hs, hL.1]; simp), if_neg (by rw [h.power]; exact hp), h.power, h.b.waits, Int.toNat_natCast]
  rfl
theorem CD.waiting (h : CD m pw) (hs : s < 156) (hL : Sect L) (q : Int) (hq : -1 ≤ q) : ({ m with power := q, waits := [(s, L)] } : DM).Ok :=
  ⟨h.b.ok.meant, h.b.ok.lost, h.b.ok.rests, h.b.ok.means, fun x hx => by
    simp only [List.mem_singleton] at hx
    subst hx
    exact ⟨by show s < m.size; rw [h.b.size]; exact hs, hL⟩, hq⟩
theorem CD.put2 (h : CD m pw) (hp : pw = -1 ∨ 2 ≤ pw) (hs : s < 156) (hL : Sect L) : ∃ m', m.putC (s : Int) L = (0, m') ∧ CD m' (lessP (lessP pw)) ∧ ∀ t, m'.hold t = if t = s then L else m.hold t := by
  have hp1 : lessP pw = -1 ∨ 1 ≤ lessP pw := by unfold lessP; split <;> omega
  have hu : ({ m with power := lessP pw, waits := [(s, L)] } : DM).up = true := by unfold DM.up; show (!(m.down || m.dead)) = true; rw [h.b.down, h.dead]; rfl
  have hok := h.waiting hs hL (lessP pw) (by omega)
  have hok2 : ({ m with power := lessP (lessP pw), waits := [(s, L)] } : DM).Ok := h.waiting hs hL _ (by unfold lessP at hp1 ⊢; omega)
  obtain ⟨w1, w2, w3, w4⟩ := DM.comes_waits [(s, L)] ({ m with power := lessP (lessP pw), waits := [(s, L)] } : DM)
  refine ⟨{ ({ m with power := lessP (lessP pw), waits := [(s, L)] } : DM).comes [(s, L)] with waits := [] }, ?_, ⟨⟨?_, ?_, rfl, ?_⟩, ?_, ?_⟩, fun t => ?_⟩
  · unfold DM.putC
    rw [h.write1 (by omega) hs hL, if_neg (by simp)]
    unfold DM.flush
    rw [if_neg (by rw [hu]; simp), if_neg (by show ¬ lessP pw = 0; omega)]
  · exact DM.clear_ok (DM.comes_ok _ hok2 fun x hx => (hok2.waits x hx).2)
  · show (DM.comes _ _).size = 156
    rw [DM.comes_size]
    exact h.b.size
  · exact w2.trans h.b.down
  · exact w3.trans h.dead
  · exact w4
  · show (DM.comes _ _).hold t = _
    rw [hold_comes hok2 (fun x hx => (hok2.waits x hx).1)]
    show ((none : Option (List Nat)).or (if s = t then some L else none)).getD _ = _
    by_cases hst : s = t
    · subst hst; simp
    · rw [if_neg hst, if_neg (fun e => hst e.symm)]; rfl
end
section
variable {m : DM} {pw : Int} {a b : Nat} {La Lb : List Nat}
end
end Go.Proofs.YtnlappoocffcpaaGreatDoor

namespace Go.Proofs.YtnlappoocffcpaaGreatDoor
set_option maxRecDepth 100000
def hurtsIn (h : Int → Bool) (a : Int) (n : Nat) : List Int := ((List.range n).map fun k => a + ((k : Nat) : Int)).filter h
theorem hurtsIn_mem {h : Int → Bool} {a : Int} {n : Nat} {s : Int} : s ∈ hurtsIn h a n ↔ h s = true ∧ a ≤ s ∧ s < a + n := by
  unfold hurtsIn
  rw [List.mem_filter, List.mem_map]
  constructor
  · rintro ⟨⟨k, hk, rfl⟩, hh⟩
    rw [List.mem_range] at hk
    exact ⟨hh, by omega, by omega⟩
  · rintro ⟨hh, h1, h2⟩
    exact ⟨⟨(s - a).toNat, by rw [List.mem_range]; omega, by omega⟩, hh⟩
def anyIn (h : Int → Bool) (a : Int) (n : Nat) : Bool := (List.range n).any fun k => h (a + ((k : Nat) : Int))
theorem anyIn_iff {h : Int → Bool} {a : Int} {n : Nat} : anyIn h a n = true ↔ ∃ s, h s = true ∧ a ≤ s ∧ s < a + n := by
  unfold anyIn
  rw [List.any_eq_true]
  constructor
  · rintro ⟨k, hk, hh⟩
    rw [List.mem_range] at hk
    exact ⟨_, hh, by omega, by omega⟩
  · rintro ⟨s, hh, h1, h2⟩
    refine ⟨(s - a).toNat, by rw [List.mem_range]; omega, ?_⟩
    rw [show a + (((s - a).toNat : Nat) : Int) = s by omega]
    exact hh
theorem anyIn_zero (h : Int → Bool) (a : Int) : anyIn h a 0 = false := rfl
theorem anyIn_succ (h : Int → Bool) (a : Int) (n : Nat) : anyIn h a (n + 1) = (anyIn h a n || h (a + (n : Int))) := by
  unfold anyIn
  rw [List.range_succ, List.any_append]
  simp
end Go.Proofs.YtnlappoocffcpaaGreatDoor

namespace Go.Proofs.YtnlappoocffcpaaGreatDoor
set_option maxRecDepth 100000
open Go Go.RowKit
theorem sectors_any (p q : Nat) (w : World) (h : p * q ≤ 9000000000000000000) :
    Calls Tryz.prog 134 #[.agg #[.int .i64 p, .int .i64 q]] w fun e w' => e = .returned (.int .i64 (p * q : Nat)) ∧ Ext w w' := by
  have h' : ((p : Int) * (q : Int)) = ((p * q : Nat) : Int) := by simp
  have HM := Lib.hid h'
  have h0 : (0 : Int) ≤ (p : Int) * (q : Int) := by rw [h']; omega
  have h1 : (p : Int) * (q : Int) ≤ 9000000000000000000 := by rw [h']; omega
  clear h h'
  go_enter Tryz.func134, Tryz.ntmps134
  go_wp2
  go_ret
  exact ⟨by rw [← HM.out]; rfl, (Ext.refl w).alloc _⟩
theorem wide_any (r : Int) (w : World) (hL : LaidT w) :
    Calls Tryz.prog 79 #[.int .i64 r] w fun e w' => e = .returned (.int .i64 (wid r)) ∧ Ext w w' := by
  have HL := Lib.hid hL
  have hf := area_field1
  clear hL
  go_enter Tryz.func79, Tryz.ntmps79
  go_wp2_with fail
  refine (find_any r _ HL.out).mono ?_
  rintro e w1 ⟨rfl, hx⟩
  have HX := Lib.hid hx
  clear hx
  go_wp2_with fail
  go_ret
  exact ⟨rfl, HX.out⟩
end Go.Proofs.YtnlappoocffcpaaGreatDoor

namespace Go.Proofs.YtnlappoocffcpaaGreatDoor
set_option maxRecDepth 100000
open Go Go.RowKit
set_option maxHeartbeats 800000 in
theorem start_any (r : Nat) (w : World) (hL : LaidT w) (hr : r ≤ 6) :
    Calls Tryz.prog 83 #[.int .i64 r] w fun e w' => e = .returned (.int .i64 (beg r)) ∧ Ext w w' := by
  have HL := Lib.hid hL
  clear hL
  go_enter Tryz.func83, Tryz.ntmps83
  go_wp2_with fail
  go_loopw [3, 6] (fun b i wr => ∃ k : Nat, k ≤ r ∧ i = .int .i64 k ∧ b = .int .i64 (beg k) ∧ Hid (Ext w wr)) (fun _ i _ => r - (intOf i).toNat)
  case atStart => exact ⟨0, Nat.zero_le _, rfl, rfl, Lib.hid (Ext.refl w)⟩
  case round =>
    obtain ⟨k, hk, rfl, rfl, HX⟩ := hrel
    by_cases hlt : k < r
    · have HB := Lib.hid (beg_next k (by omega))
      have hb := beg_le k
      have hp := plc_wid k
      go_wp2_with fail
      refine (find_any k _ (HL.out.ext HX.out)).mono ?_
      rintro e w1 ⟨rfl, hx⟩
      have HX := Lib.hid (HX.out.trans hx)
      clear hx
      go_wp2_with fail
      refine (sectors_any _ _ _ (by omega)).mono ?_
      rintro e w2 ⟨rfl, hx⟩
      have HX := Lib.hid (HX.out.trans hx)
      clear hx
      go_wp2_with fail
      go_roundw
      case rel => exact ⟨k + 1, by omega, by go_num, by rw [show ((k + 1 : Nat) : Int) = (k : Int) + 1 from rfl, HB.out]; go_num, HX⟩
      case measure => simp [intOf]; omega
    · have HK : Hid (k = r) := Lib.hid (by omega)
      go_wp2_with fail
      go_ret
      exact ⟨by rw [HK.out]; rfl, HX.out⟩
theorem all_any (w : World) (hL : LaidT w) :
    Calls Tryz.prog 39 #[] w fun e w' => e = .returned (.int .i64 156) ∧ Ext w w' := by
  have HL := Lib.hid hL
  clear hL
  go_enter Tryz.func39, Tryz.ntmps39
  go_wp2_with fail
  refine (start_any 6 _ HL.out (by omega)).mono ?_
  rintro e w1 ⟨rfl, hx⟩
  have HX := Lib.hid hx
  clear hx
  go_wp2_with fail
  go_ret
  exact ⟨rfl, HX.out⟩
theorem first_any (r p : Int) (w : World) (hL : LaidT w) :
    Calls Tryz.prog 64 #[.int .i64 r, .int .i64 p] w fun e w' => e = .returned (.int .i64 (firstS r p)) ∧ Ext w w' := by
  have HL := Lib.hid hL
  clear hL
  by_cases h0 : p < 0
  · have HF := Lib.hid (firstS_no (r := r) (p := p) (by omega))
    go_enter Tryz.func64, Tryz.ntmps64
    go_wp2_with fail
    go_ret
    exact ⟨by rw [HF.out]; rfl, Ext.refl w⟩
  by_cases h1 : (plc r : Int) ≤ p
  · have HF := Lib.hid (firstS_no (r := r) (p := p) (by omega))
    go_enter Tryz.func64, Tryz.ntmps64
    go_wp2_with fail
    refine (places_any r _ HL.out).mono ?_
    rintro e w1 ⟨rfl, hx⟩
    have HX := Lib.hid hx
    clear hx
    go_wp2_with fail
    go_ret
    exact ⟨by rw [HF.out]; rfl, HX.out⟩
  have hr := plc_some (r := r) (by omega)
  obtain ⟨r, rfl⟩ := Int.eq_ofNat_of_zero_le (show 0 ≤ r by omega)
  have HF := Lib.hid (firstS_yes (r := r) (p := p) (by omega))
  have hb := beg_le r
  have hpl := plc_le r
  have hw0 := wid_le r
  have h2 : 0 ≤ p * (wid r : Int) := Int.mul_nonneg (by omega) (by omega)
  have h3 : p * (wid r : Int) ≤ 48 * 2 := Int.mul_le_mul (by omega) (by omega) (by omega) (by omega)
  go_enter Tryz.func64, Tryz.ntmps64
  go_wp2_with fail
  refine (places_any r _ HL.out).mono ?_
  rintro e w1 ⟨rfl, hx⟩
  have HX := Lib.hid hx
  clear hx
  go_wp2_with fail
  refine (start_any r _ (HL.out.ext HX.out) (by omega)).mono ?_
  rintro e w2 ⟨rfl, hx⟩
  have HX := Lib.hid (HX.out.trans hx)
  clear hx
  go_wp2_with fail
  refine (wide_any r _ (HL.out.ext HX.out)).mono ?_
  rintro e w3 ⟨rfl, hx⟩
  have HX := Lib.hid (HX.out.trans hx)
  clear hx
  go_wp2_with fail
  go_ret
  exact ⟨by rw [HF.out]; rfl, HX.out⟩
end Go.Proofs.YtnlappoocffcpaaGreatDoor

namespace Go.Proofs.YtnlappoocffcpaaGreatDoor
set_option maxRecDepth 100000
open Go Go.RowKit
end Go.Proofs.YtnlappoocffcpaaGreatDoor

namespace Go.Proofs.YtnlappoocffcpaaGreatDoor
set_option maxRecDepth 100000
open Go Go.RowKit Go.ChangeShapes Go.WideShapes Go.Deep
structure Act6 where
  sl : Bool := false
  ta : Int := 0
  tb : Int := 0
  tc : Int := 0
  td : Int := 0
  te : Int := 0
  bA : Option Addr := none
  bn : Nat := 0
  bc : Nat := 0
  bl : List Nat := []
  act : Act5 := {}
instance : Inhabited Act6 := ⟨{}⟩
section
variable {H : Type} {enc : TypeId × Value → H} {P : Program} {w : World} {base : Nat} {spare : Nat → Bool} {held : Bool}
end
end Go.Proofs.YtnlappoocffcpaaGreatDoor

namespace Go.Proofs.YtnlappoocffcpaaGreatDoor
set_option maxRecDepth 100000
open Go Go.RowKit
end Go.Proofs.YtnlappoocffcpaaGreatDoor

namespace Go.Proofs.YtnlappoocffcpaaGreatDoor
set_option maxRecDepth 100000
open Go Go.RowKit
end Go.Proofs.YtnlappoocffcpaaGreatDoor

namespace Go.Proofs.YtnlappoocffcpaaGreatDoor
set_option maxRecDepth 100000
open Go Go.RowKit
structure DK (w0 w : World) (d : Nat) (F : Nat → Prop) (m : DM) : Prop where
  disk : PDisk w d F m
  low : ∀ k, F k → w0.heap.size ≤ k
  bel : Ext w0 w
theorem DK.ext {w0 w w' : World} {d : Nat} {F : Nat → Prop} {m : DM} (h : DK w0 w d F m) (k : Ext w w') : DK w0 w' d F m := ⟨h.disk.ext k, h.low, h.bel.trans k⟩
theorem DK.step {w0 w w' : World} {d : Nat} {F : Nat → Prop} {m m' : DM} (h : DK w0 w d F m) (hp : PDisk w' d (grow F w w') m') (hm : Mod F w w') : DK w0 w' d (grow F w w') m' :=
  ⟨hp, fun k hk => hk.elim (h.low k) fun h2 => Nat.le_trans h.bel.size h2.1, Below.mod h.bel hm h.bel.size h.low⟩
theorem DK.mod {w0 w w' : World} {d : Nat} {F G : Nat → Prop} {m : DM} (h : DK w0 w d F m) (hm : Mod G w w') (hG : ∀ k, F k → ¬ G k) (hl : ∀ k, G k → w0.heap.size ≤ k) : DK w0 w' d F m :=
  ⟨h.disk.mod hm hG, h.low, Below.mod h.bel hm h.bel.size hl⟩
end Go.Proofs.YtnlappoocffcpaaGreatDoor

namespace Go.Proofs.YtnlappoocffcpaaGreatDoor
set_option maxRecDepth 100000
open Go Go.RowKit
end Go.Proofs.YtnlappoocffcpaaGreatDoor

namespace Go.Proofs.YtnlappoocffcpaaGreatDoor
set_option maxRecDepth 100000
open Go Go.RowKit
theorem u8_size (w : World) : (sizeOf (Tryz.prog.elem 45)).run Tryz.prog w = .ok 1 w := by
  have ht : Tryz.prog.elem 45 = 5 := by kernel_rfl
  obtain ⟨i0, hi, _, hz1, _⟩ := info_parts byte_info
  rw [ht]
  simp [Go.sizeOf, typeInfo, hi, hz1]
theorem cut_mid (g o n cp l h : Nat) (hl : l < cp) (hlh : l ≤ h) (hh : h ≤ cp) (w : World) : (Instr.slice 45 (.slice (some ⟨g, o, none⟩) n cp) (some (.int .i64 (l : Int))) (some (.int .i64 (h : Int))) none).run Tryz.prog w = .ok (.slice (some ⟨g, o + l, none⟩) (h - l) (cp - l)) w := by
  have ht : Tryz.prog.elem 45 = 5 := by kernel_rfl
  rw [run_slice_lh w 45 (some ⟨g, o, none⟩) n cp (by rw [ht]; exact Tryz.underlying45) .i64 .i64 (l : Int) (h : Int) (by omega) (by omega) (by omega), u8_size]
  simp only [Result.andThen, sliced, Int.toNat_natCast, Nat.mul_one]
  rw [if_neg (by omega)]
  simp [Addr.add]
end Go.Proofs.YtnlappoocffcpaaGreatDoor

namespace Go.Proofs.YtnlappoocffcpaaGreatDoor
set_option maxRecDepth 100000
open Go Go.RowKit
end Go.Proofs.YtnlappoocffcpaaGreatDoor

namespace Go.Proofs.YtnlappoocffcpaaGreatDoor
set_option maxRecDepth 100000
open Go Go.RowKit
end Go.Proofs.YtnlappoocffcpaaGreatDoor

namespace Go.Proofs.YtnlappoocffcpaaGreatDoor
set_option maxRecDepth 100000
open Go Go.RowKit
end Go.Proofs.YtnlappoocffcpaaGreatDoor

namespace Go.Proofs.YtnlappoocffcpaaGreatDoor
set_option maxRecDepth 100000
open Go Go.RowKit
end Go.Proofs.YtnlappoocffcpaaGreatDoor

namespace Go.Proofs.YtnlappoocffcpaaGreatDoor
set_option maxRecDepth 100000
open Go Go.RowKit
theorem sealE_zero {a b c d e s : Int} {n : Nat} : sealE a b c d e n s = 0 ↔ roomN s ≠ 0 ∧ mayB a b c d e = true ∧ n ≤ roomN s := by
  constructor
  · intro h
    by_cases h1 : roomN s = 0 ∨ mayB a b c d e = false
    · rw [sealE_arg h1] at h; cases h
    · have h0 : roomN s ≠ 0 := fun hh => h1 (.inl hh)
      have hm : mayB a b c d e = true := by
        by_cases hm : mayB a b c d e = true
        · exact hm
        · exact absurd (.inr (by simpa using hm)) h1
      refine ⟨h0, hm, ?_⟩
      rcases Nat.lt_or_ge (roomN s) n with h2 | h2
      · rw [sealE_long h0 hm h2] at h; cases h
      · exact h2
  · rintro ⟨h0, hm, hn⟩
    exact sealE_yes h0 hm hn
theorem sealL_len {a b c d e s : Int} {body : List Nat} (h : sealE a b c d e body.length s = 0) : (sealL a b c d e body s).length = 64 * s.toNat ∧ 1 ≤ s ∧ s ≤ 2 := by
  obtain ⟨h0, hm, hn⟩ := sealE_zero.1 h
  obtain ⟨S, rfl⟩ := Int.eq_ofNat_of_zero_le (show 0 ≤ s by have := roomN_pos (s := s) (by omega); omega)
  have hfit := room_fits hn (by omega)
  rw [sealL_yes h, Int.toNat_natCast, frameL_len (by rw [pl_yes hm, tagBytes_len]) (by omega) (by omega)]
  omega
theorem sealL_good {a b c d e s : Int} {body : List Nat} (h : sealE a b c d e body.length s = 0) : goodB (sealL a b c d e body s) = true ∧ obl (sealL a b c d e body s) = body ∧ (ofl (sealL a b c d e body s) 0 : Int) = a ∧ (ofl (sealL a b c d e body s) 1 : Int) = b ∧ (ofl (sealL a b c d e body s) 2 : Int) = c ∧ (ofl (sealL a b c d e body s) 3 : Int) = d ∧ (ofl (sealL a b c d e body s) 4 : Int) = e := by
  obtain ⟨h0, hm, hn⟩ := sealE_zero.1 h
  obtain ⟨S, rfl⟩ := Int.eq_ofNat_of_zero_le (show 0 ≤ s by have := roomN_pos (s := s) (by omega); omega)
  obtain ⟨a, b, c, d, e, rfl, rfl, rfl, rfl, rfl⟩ := may_nat hm
  have hb88 := roomN_le (S : Int)
  rw [sealL_yes h, Int.toNat_natCast, pl_yes hm]
  simp only [Int.toNat_natCast]
  have hg := seal_good (S := S) hm hn (by omega)
  have hr := (PV_tag hm).2
  rw [ofl_yes hg, ofl_yes hg, ofl_yes hg, ofl_yes hg, ofl_yes hg, obl_yes hg, read_tag (tagBytes_len a b c d e), read_body (tagBytes_len a b c d e) (by omega), hr 0 (by omega), hr 1 (by omega), hr 2 (by omega), hr 3 (by omega), hr 4 (by omega)]
  exact ⟨hg, rfl, rfl, rfl, rfl, rfl, rfl⟩
theorem sealL_lt {a b c d e s : Int} {body : List Nat} (hb : ∀ x ∈ body, x < 256) : ∀ x ∈ sealL a b c d e body s, x < 256 := by
  by_cases h : sealE a b c d e body.length s = 0
  · rw [sealL_yes h]
    refine frameL_lt hb ?_
    rw [pl_yes (sealE_zero.1 h).2.1]
    exact tagBytes_lt _ _ _ _ _
  · rw [sealL_no h]
    simp
end Go.Proofs.YtnlappoocffcpaaGreatDoor

namespace Go.Proofs.YtnlappoocffcpaaGreatDoor
set_option maxRecDepth 100000
open Go Go.RowKit
theorem By.piece {w : World} {g o n c : Nat} {l : List Nat} (h : By w (some ⟨g, o, none⟩) n c l) (k : Nat) (hk : k + 64 ≤ n) : By w (some ⟨g, o + k, none⟩) 64 (c - k) ((l.drop k).take 64) := by
  have hl := h.len
  have hc := h.cap
  refine ⟨by rw [List.length_take, List.length_drop]; omega, by omega, by have := h.most; omega, (h.rd.drop rfl k).take 64, fun e => by cases e⟩
theorem firstS_in (g p : Int) : -1 ≤ firstS g p ∧ firstS g p ≤ 156 := by
  have h1 := beg_le g
  have h2 := wid_le g
  by_cases hh : 0 ≤ p ∧ p < plc g
  · rw [firstS_yes hh]
    have hr := plc_some (r := g) (by omega)
    rcases region_cases hr with rfl | rfl | rfl | rfl | rfl <;> simp [beg, plc, wid] at hh ⊢ <;> omega
  · rw [firstS_no hh]; omega
end Go.Proofs.YtnlappoocffcpaaGreatDoor

namespace Go.Proofs.YtnlappoocffcpaaGreatDoor
set_option maxRecDepth 100000
open Go Go.RowKit
end Go.Proofs.YtnlappoocffcpaaGreatDoor

namespace Go.Proofs.YtnlappoocffcpaaGreatDoor
set_option maxRecDepth 100000
open Go Go.RowKit
structure Gath (w0 w : World) (v : Value) (l : List Nat) (k : Nat) : Prop where
  own : w.ownsRow w0.heap.size 5 1 v l.length (vb l)
  lt : ∀ b ∈ l, b < 256
  few : l.length ≤ 64 * k
  ext : Ext w0 w
theorem Gath.start (w : World) : Gath w w (.slice none 0 0) [] 0 := ⟨World.ownsRow_nil _ _ _ _, fun b hb => (by cases hb), by simp, Ext.refl w⟩
theorem Gath.more {w0 w w' : World} {v : Value} {l : List Nat} {k : Nat} (h : Gath w0 w v l k) (hx : Ext w w') : Gath w0 w' v l k := ⟨own_ext h.own hx, h.lt, h.few, h.ext.trans hx⟩
theorem Gath.form {w0 w : World} {v : Value} {l : List Nat} {k : Nat} (h : Gath w0 w v l k) : ∃ A c, v = .slice A l.length c ∧ By w A l.length c l := by
  obtain ⟨A, c, rfl, _, _⟩ := own_form h.own
  exact ⟨A, c, rfl, Bs.of_own h.own h.lt⟩
theorem Gath.app {w0 w w' : World} {v v' : Value} {l l2 : List Nat} {k : Nat} (h : Gath w0 w v l k) (hg : w.grownBy w' v.ownBlock) (ho : w'.ownsRow w0.heap.size 5 1 v' (l.length + l2.length) (vb l ++ vb l2)) (hl : ∀ b ∈ l2, b < 256) (hn : l2.length ≤ 64) : Gath w0 w' v' (l ++ l2) (k + 1) := by
  refine ⟨by rw [List.length_append, vb_append]; exact ho, fun b hb => (List.mem_append.1 hb).elim (h.lt b) (hl b), ?_, Below.grown h.ext hg (Ext.size h.ext) (fun g hg' => (h.own.lt g hg').1)⟩
  have := h.few
  rw [List.length_append]
  omega
end Go.Proofs.YtnlappoocffcpaaGreatDoor

namespace Go.Proofs.YtnlappoocffcpaaGreatDoor
set_option maxRecDepth 100000
structure NInv (m : DM) : Prop where
  ok : m.Ok
  same : ∀ i, m.rest.getD i [] = m.meant.getD i []
  none_ : ∀ i, m.lost.getD i false = false
theorem NInv.of_eq {m m' : DM} (h : NInv m) (hok : m'.Ok) (h1 : m'.rest = m.rest) (h2 : m'.meant = m.meant) (h3 : m'.lost = m.lost) : NInv m' :=
  ⟨hok, fun i => by rw [h1, h2]; exact h.same i, fun i => by rw [h3]; exact h.none_ i⟩
theorem NInv.comes {m : DM} (h : NInv m) {l : List (Nat × List Nat)} (hl : ∀ x ∈ l, x ∈ m.waits) : NInv (m.comes l) := by
  have g := comes_get l m h.ok fun x hx => (h.ok.waits x (hl x hx)).1
  refine ⟨DM.comes_ok l h.ok fun x hx => (h.ok.waits x (hl x hx)).2, fun i => ?_, fun i => ?_⟩
  · rw [(g i).1, (g i).2.1, h.same i]
  · rw [(g i).2.2, h.none_ i]
    split <;> rfl
theorem NInv.write {m : DM} (h : NInv m) (s : Int) {b : List Nat} (hb : ∀ x ∈ b, x < 256) : NInv (m.write s b).2 := by
  have hok := DM.write_ok h.ok s hb
  revert hok
  unfold DM.write
  split
  · intro _; exact h
  · split
    · intro _; exact h
    · split
      · intro hok; exact h.of_eq hok rfl rfl rfl
      · intro hok; exact h.of_eq hok rfl rfl rfl
theorem NInv.act {m : DM} (h : NInv m) (kind : Nat) (sec num : Int) {bytes : List Nat} (hb : ∀ x ∈ bytes, x < 256) (keep : List Bool) (hk : ¬ (3 ≤ kind % 9 ∧ kind % 9 ≤ 5)) : NInv (m.act kind sec num bytes keep).2 := by
  have hok := DM.act_ok h.ok kind sec num hb keep
  have h9 : kind % 9 < 9 := Nat.mod_lt _ (by omega)
  have hcase : kind % 9 = 0 ∨ kind % 9 = 1 ∨ kind % 9 = 2 ∨ kind % 9 = 6 ∨ kind % 9 = 7 ∨ kind % 9 = 8 := by omega
  unfold DM.act at hok ⊢
  rcases hcase with e | e | e | e | e | e
  · simp only [e] at hok ⊢
    revert hok
    unfold DM.flush
    split
    · intro _; exact h
    · split
      · intro hok; exact h.of_eq hok rfl rfl rfl
      · intro hok
        have h2 : NInv { m with power := lessP m.power } := h.of_eq ⟨h.ok.meant, h.ok.lost, h.ok.rests, h.ok.means, h.ok.waits, lessP_le h.ok.power⟩ rfl rfl rfl
        exact (h2.comes (l := m.waits) fun x hx => hx).of_eq hok rfl rfl rfl
  · simp only [e] at hok ⊢
    revert hok
    unfold DM.crash
    split
    · intro _; exact h
    · intro hok; exact (h.comes (l := kept m.waits keep) fun x hx => kept_mem hx).of_eq hok rfl rfl rfl
  · simp only [e] at hok ⊢
    revert hok
    unfold DM.start
    split
    · intro _; exact h
    · intro hok; exact h.of_eq hok rfl rfl rfl
  · simp only [e] at hok ⊢
    exact h.write sec (actB_lt hb)
  · simp only [e] at hok ⊢
    exact h.write sec (actB_lt hb)
  · simp only [e] at hok ⊢
    revert hok
    unfold DM.setPower
    split
    · intro _; exact h
    · split
      · intro _; exact h
      · intro hok; exact h.of_eq hok rfl rfl rfl
end Go.Proofs.YtnlappoocffcpaaGreatDoor

namespace Go.Proofs.YtnlappoocffcpaaGreatDoor
set_option maxRecDepth 100000
open Go Go.RowKit
def tagV (l : List Nat) (r g p : Int) : Value := .agg #[.int .i64 (mfl l r g p 0), .int .i64 (mfl l r g p 1), .int .i64 (mfl l r g p 2), .int .i64 (mfl l r g p 3), .int .i64 (mfl l r g p 4)]
end Go.Proofs.YtnlappoocffcpaaGreatDoor

namespace Go.Proofs.YtnlappoocffcpaaGreatDoor
set_option maxRecDepth 100000
open Go Go.RowKit
theorem seal_mine {a b c t e : Int} {s : Int} {body : List Nat} (h : sealE a b c t e body.length s = 0) : stM (sealL a b c t e body s) a b c = 1 ∧ tagV (sealL a b c t e body s) a b c = .agg #[.int .i64 a, .int .i64 b, .int .i64 c, .int .i64 t, .int .i64 e] ∧ mbl (sealL a b c t e body s) a b c = body ∧
    ((mfl (sealL a b c t e body s) a b c 0 : Nat) : Int) = a ∧ ((mfl (sealL a b c t e body s) a b c 1 : Nat) : Int) = b ∧ ((mfl (sealL a b c t e body s) a b c 2 : Nat) : Int) = c ∧ ((mfl (sealL a b c t e body s) a b c 3 : Nat) : Int) = t ∧ ((mfl (sealL a b c t e body s) a b c 4 : Nat) : Int) = e := by
  obtain ⟨hg, hb, q0, q1, q2, q3, q4⟩ := sealL_good h
  obtain ⟨e1, e2, e3⟩ := mine_yes hg ((mineB_iff hg).2 ⟨q0, q1, q2⟩)
  have f0 := e2 0
  have f1 := e2 1
  have f2 := e2 2
  have f3 := e2 3
  have f4 := e2 4
  refine ⟨e1, ?_, e3.trans hb, by rw [f0]; exact q0, by rw [f1]; exact q1, by rw [f2]; exact q2, by rw [f3]; exact q3, by rw [f4]; exact q4⟩
  unfold tagV
  rw [f0, f1, f2, f3, f4, q0, q1, q2, q3, q4]
end Go.Proofs.YtnlappoocffcpaaGreatDoor

namespace Go.Proofs.YtnlappoocffcpaaGreatDoor
set_option maxRecDepth 100000
open Go
end Go.Proofs.YtnlappoocffcpaaGreatDoor

namespace Go.Proofs.YtnlappoocffcpaaGreatDoor
set_option maxRecDepth 100000
def pair2 (a b : List Nat) : List Nat := if a = [] ∨ b = [] then [] else a ++ b
def recQ (r q : Int) (x : List Nat) : Rec :=
  if stM x r 3 q = 1 then (match recR (mbl x r 3 q) with | some (a, b, h) => { st := 1, ix := (mfl x r 3 q 3 : Nat), bx := (a : Nat), yb := (b : Nat), wh := (h : Nat) } | none => { st := 2 }) else { st := stM x r 3 q }
def copQ (r p : Int) (x : List Nat) : CopL :=
  if stM x r 4 p = 1 then (match bdR (mbl x r 4 p) with | some (a, b, e) => { st := 1, ix := (mfl x r 4 p 3 : Nat), bx := (a : Nat), yb := (b : Nat), e := e } | none => { st := 2 }) else { st := stM x r 4 p }
def DM.recM (m : DM) (r q : Int) : Rec := recQ r q (m.cb 3 q)
def DM.fb (m : DM) (p : Int) : List Nat := pair2 (m.read (firstS 4 p)).1 (m.read (firstS 4 p + 1)).1
def DM.copM (m : DM) (r p : Int) : CopL := copQ r p (m.fb p)
def DM.put2C (m : DM) (s : Int) (L : List Nat) : Int × DM :=
  if (m.write s (L.take 64)).1 ≠ 0 then m.write s (L.take 64) else
    if ((m.write s (L.take 64)).2.write (s + 1) (L.drop 64)).1 ≠ 0 then (m.write s (L.take 64)).2.write (s + 1) (L.drop 64) else ((m.write s (L.take 64)).2.write (s + 1) (L.drop 64)).2.flush
def frmW (r inc i : Int) (p x y : Int) (e : Ent) : List Nat := sealL r 4 p i inc (bodyL x y e) 2
def recW (r inc i : Int) (q x y k : Int) : List Nat := sealL r 3 q i inc (recL x y k) 1
def DM.putK (m : DM) (r inc i q k x y : Int) (e : Ent) : Int × DM :=
  if (m.put2C (firstS 4 (2 * q + k)) (frmW r inc i (2 * q + k) x y e)).1 ≠ 0 then m.put2C (firstS 4 (2 * q + k)) (frmW r inc i (2 * q + k) x y e) else
    (m.put2C (firstS 4 (2 * q + k)) (frmW r inc i (2 * q + k) x y e)).2.putC (firstS 3 q) (recW r inc i q x y k)
def placeW (i : Int) : Int := (i - 1) % 24
def DM.nextW (m : DM) (r i : Int) : Int := nextL (m.recM r (placeW i)) (m.copM r (2 * placeW i)) (m.copM r (2 * placeW i + 1)) i
def DM.putW (m : DM) (r inc i x y : Int) (e : Ent) : Int × DM := m.putK r inc i (placeW i) (m.nextW r i) x y e
def sR (q : Nat) : Nat := 4 + q
def sF (p : Nat) : Nat := 28 + 2 * p
theorem first3 {q : Nat} (h : q < 24) : firstS 3 (q : Int) = (sR q : Nat) := by
  unfold firstS sR
  rw [if_pos (by simp [plc]; omega)]
  simp [beg, wid]
theorem first4 {p : Nat} (h : p < 48) : firstS 4 (p : Int) = (sF p : Nat) := by
  unfold firstS sF
  rw [if_pos (by simp [plc]; omega)]
  simp [beg, wid]
  omega
theorem sR_lt {q : Nat} (h : q < 24) : sR q < 156 := by unfold sR; omega
theorem sF_lt {p : Nat} (h : p < 48) : sF p + 1 < 156 := by unfold sF; omega
theorem placeW_nat {i : Int} : ∃ q : Nat, placeW i = (q : Int) ∧ q < 24 := by
  unfold placeW
  exact ⟨((i - 1) % 24).toNat, by omega, by omega⟩
theorem nilW_bad (r g p : Int) : stM [] r g p = 2 := by
  have hz : szB [] = false := by decide
  rw [(mine_bad (size_bad hz)).1]
  exact stN_size hz
theorem z64W (r g p : Int) : stM z64 r g p = 0 := by
  have hz : zeroB z64 = true := by decide
  rw [(mine_bad (zero_bad hz)).1]
  exact stN_blank (by decide) hz
theorem z128W (r g p : Int) : stM (pair2 z64 z64) r g p = 0 := by
  have hz : zeroB (pair2 z64 z64) = true := by decide
  rw [(mine_bad (zero_bad hz)).1]
  exact stN_blank (by decide) hz
theorem recQ_blank (r q : Int) : recQ r q z64 = {} := by unfold recQ; rw [z64W]; rfl
theorem copQ_blank (r p : Int) : copQ r p (pair2 z64 z64) = {} := by unfold copQ; rw [z128W]; rfl
theorem recQ_st (r q : Int) (x : List Nat) : (recQ r q x).st ≤ 2 := by
  unfold recQ
  split
  · split <;> simp
  · simp only
    unfold stM stN
    (repeat' split) <;> omega
theorem copQ_st (r q : Int) (x : List Nat) : (copQ r q x).st ≤ 2 := by
  unfold copQ
  split
  · split <;> simp
  · simp only
    unfold stM stN
    (repeat' split) <;> omega
theorem recQ_wh (r q : Int) (x : List Nat) : (recQ r q x).wh = 0 ∨ (recQ r q x).wh = 1 := by
  unfold recQ
  split
  · split
    · rename_i h
      have := (recR_some h).2.1
      simp only
      omega
    · exact .inl rfl
  · exact .inl rfl
theorem sealW3 {r inc i q x y k : Int} (hm : mayB r 3 q i inc = true) : sealE r 3 q i inc (recL x y k).length 1 = 0 := sealE_yes (by decide) hm (by rw [recL_length, roomN_one]; omega)
theorem sealW4 {r inc i p x y : Int} {e : Ent} (hm : mayB r 4 p i inc = true) (he : enOk e = true) : sealE r 4 p i inc (bodyL x y e).length 2 = 0 := sealE_yes (by decide) hm (by have := bodyL_len (x := x) (y := y) he; rw [roomN_two]; omega)
theorem recW_back {r inc i q x y k : Int} (hm : mayB r 3 q i inc = true) (hb : balE x y = true) (hk : k = 0 ∨ k = 1) : recQ r q (recW r inc i q x y k) = { st := 1, ix := i, bx := x, yb := y, wh := k } := by
  obtain ⟨h1, _, h3, _, _, _, h4, _⟩ := seal_mine (sealW3 (x := x) (y := y) (k := k) hm)
  obtain ⟨a, b, c, ea, eb, ec, hr⟩ := rec_back (recB_iff.2 ⟨balE_iff.1 hb, hk⟩)
  unfold recQ recW
  rw [if_pos h1, h3, hr]
  simp only
  rw [h4, ← ea, ← eb, ← ec]
theorem frmW_back {r inc i p x y : Int} {e : Ent} (hm : mayB r 4 p i inc = true) (hb : balE x y = true) (he : enOk e = true) : copQ r p (frmW r inc i p x y e) = { st := 1, ix := i, bx := x, yb := y, e := e } := by
  obtain ⟨h1, _, h3, _, _, _, h4, _⟩ := seal_mine (sealW4 (x := x) (y := y) hm he)
  obtain ⟨a, b, ea, eb, hr⟩ := bd_back he hb
  unfold copQ frmW
  rw [if_pos h1, h3, hr]
  simp only
  rw [h4, ← ea, ← eb]
theorem recW_sect {r inc i q x y k : Int} (hm : mayB r 3 q i inc = true) (hb : recB x y k = true) : Sect (recW r inc i q x y k) := by
  have hE := sealW3 (x := x) (y := y) (k := k) hm
  exact ⟨by unfold recW; rw [(sealL_len hE).1]; rfl, sealL_lt (recL_lt hb)⟩
theorem frmW_sects {r inc i p x y : Int} {e : Ent} (hm : mayB r 4 p i inc = true) (hb : balE x y = true) (he : enOk e = true) : Sect ((frmW r inc i p x y e).take 64) ∧ Sect ((frmW r inc i p x y e).drop 64) ∧ pair2 ((frmW r inc i p x y e).take 64) ((frmW r inc i p x y e).drop 64) = frmW r inc i p x y e := by
  have hE := sealW4 (x := x) (y := y) hm he
  have hl : (frmW r inc i p x y e).length = 128 := by unfold frmW; rw [(sealL_len hE).1]; rfl
  have hb : ∀ z ∈ frmW r inc i p x y e, z < 256 := sealL_lt (bodyL_lt he hb)
  have h1 : ((frmW r inc i p x y e).take 64).length = 64 := by rw [List.length_take, hl]; rfl
  have h2 : ((frmW r inc i p x y e).drop 64).length = 64 := by rw [List.length_drop, hl]
  refine ⟨⟨h1, fun z hz => hb z (List.mem_of_mem_take hz)⟩, ⟨h2, fun z hz => hb z (List.mem_of_mem_drop hz)⟩, ?_⟩
  unfold pair2
  rw [if_neg (by
    rintro (h | h)
    · rw [h] at h1; cases h1
    · rw [h] at h2; cases h2), List.take_append_drop]
end Go.Proofs.YtnlappoocffcpaaGreatDoor

namespace Go.Proofs.YtnlappoocffcpaaGreatDoor
set_option maxRecDepth 100000
open Go Go.RowKit
structure LogAt (w : World) (g d : Nat) (r inc : Int) (s : Nat) : Prop where
  row : w.heap[g]? = some (.cells #[.pointer (some ⟨g, 0, none⟩), .pointer (some ⟨d, 0, none⟩), .int .i64 r, .int .i64 inc, .int .i64 (s : Int)] 109 (0, 0))
theorem LogAt.lt {w : World} {g d s : Nat} {r inc : Int} (h : LogAt w g d r inc s) : g < w.heap.size := (Array.getElem?_eq_some_iff.1 h.row).1
theorem LogAt.cells {w : World} {g d s : Nat} {r inc : Int} (h : LogAt w g d r inc s) : w.cell? ⟨g, 0, none⟩ = some (.pointer (some ⟨g, 0, none⟩)) ∧ w.cell? ⟨g, 1, none⟩ = some (.pointer (some ⟨d, 0, none⟩)) ∧ w.cell? ⟨g, 2, none⟩ = some (.int .i64 r) ∧ w.cell? ⟨g, 3, none⟩ = some (.int .i64 inc) ∧ w.cell? ⟨g, 4, none⟩ = some (.int .i64 (s : Int)) :=
  ⟨cell_of_row w g 0 _ _ _ h.row, cell_of_row w g 1 _ _ _ h.row, cell_of_row w g 2 _ _ _ h.row, cell_of_row w g 3 _ _ _ h.row, cell_of_row w g 4 _ _ _ h.row⟩
theorem LogAt.ext {w w' : World} {g d s : Nat} {r inc : Int} (h : LogAt w g d r inc s) (hx : Ext w w') : LogAt w' g d r inc s := ⟨(hx.block _ h.lt).trans h.row⟩
theorem LogAt.mod {w w' : World} {F : Nat → Prop} {g d s : Nat} {r inc : Int} (h : LogAt w g d r inc s) (hm : Mod F w w') (hF : ¬ F g) : LogAt w' g d r inc s := ⟨(hm.block g h.lt hF).trans h.row⟩
theorem eqlW_self (a : Addr) (w : World) : (binOp .eql 31 (.pointer (some a)) (.pointer (some a))).run Tryz.prog w = .ok (.bool true) w := by
  have hi : (Tryz.prog.info? 109).isSome = true := by kernel_rfl
  obtain ⟨j, hj⟩ := Option.isSome_iff_exists.1 hi
  exact run_eql_ptr_same w a Tryz.underlying31 hj
set_option maxRecDepth 100000 in
set_option maxHeartbeats 400000 in
theorem wmade_yes (g : Nat) (w : World) (h : w.cell? ⟨g, 0, none⟩ = some (.pointer (some ⟨g, 0, none⟩))) :
    Calls Tryz.prog 59 #[.pointer (some ⟨g, 0, none⟩)] w fun e w' => e = .returned (.bool true) ∧ w = w' := by
  have he := eqlW_self
  go_enter Tryz.func59, Tryz.ntmps59
  go_wp2
  go_ret
  exact ⟨rfl, rfl⟩
theorem wrap_i64 {x : Int} (h1 : -9223372036854775808 ≤ x) (h2 : x ≤ 9223372036854775807) : IntKind.i64.wrap x = x := IntWalk.i64_in _ (by omega)
def inI (a b c : Int) : Bool := decide (a ≤ b) && decide (b ≤ c)
set_option maxHeartbeats 400000 in
theorem isWithin_of (a b c : Int) (w : World) : Calls Tryz.prog 40 #[.int .i64 a, .int .i64 b, .int .i64 c] w fun e w' => e = .returned (.bool (inI a b c)) ∧ w = w' := by
  by_cases h : a ≤ b
  · have hi : inI a b c = decide (b ≤ c) := by unfold inI; rw [decide_eq_true h, Bool.true_and]
    rw [hi]
    clear hi
    go_enter Tryz.func40, Tryz.ntmps40
    go_wp2_with fail
    go_ret
    exact ⟨rfl, rfl⟩
  · have hi : inI a b c = false := by unfold inI; rw [decide_eq_false h, Bool.false_and]
    rw [hi]
    clear hi
    go_enter Tryz.func40, Tryz.ntmps40
    go_wp2_with fail
    go_ret
    exact ⟨rfl, rfl⟩
def liveE (s : Nat) (i : Int) : Int := if (s : Int) + 1 ≤ i ∧ i ≤ (s : Int) + 24 then 0 else 2
set_option maxRecDepth 100000 in
set_option maxHeartbeats 800000 in
theorem wknown_of {w : World} {g d s : Nat} {r inc : Int} (h : LogAt w g d r inc s) (hs : s ≤ 2000000000000) (i : Int) :
    Calls Tryz.prog 45 #[.pointer (some ⟨g, 0, none⟩), .int .i64 i] w fun e w' => e = .returned (.int .i64 (liveE s i)) ∧ Ext w w' := by
  obtain ⟨c0, c1, c2, c3, c4⟩ := h.cells
  have HM := Lib.hid (wmade_yes g w c0)
  clear h c0 c1 c2 c3
  obtain ⟨b, hb⟩ : ∃ b, inI ((s : Int) + 1) i ((s : Int) + 24) = b := ⟨_, rfl⟩
  have HW : Hid (∀ V, Calls Tryz.prog 40 #[.int .i64 (IntKind.i64.wrap ((s : Int) + 1)), .int .i64 i, .int .i64 (IntKind.i64.wrap ((s : Int) + 24))] V fun e w' => e = .returned (.bool b) ∧ V = w') := Lib.hid (fun V => by rw [wrap_i64 (by omega) (by omega), wrap_i64 (by omega) (by omega), ← hb]; exact isWithin_of _ _ _ V)
  have HE : Hid (liveE s i = if b = true then 0 else 2) := Lib.hid (by
    unfold liveE
    rw [← hb]
    unfold inI
    simp)
  clear hb
  cases b with
  | true =>
    rw [HE.out]
    go_enter Tryz.func45, Tryz.ntmps45
    go_wp2_with fail
    refine HM.out.mono ?_
    rintro e w1 ⟨rfl, rfl⟩
    go_wp2_with fail
    go_region_held3 (fun w' => w'.cell? ⟨g, 4, none⟩ = some (.int .i64 (s : Int)))
      (first | with_reducible exact c4 | assumption | go_keep)
      (first | (go_at_call 40; ((with_reducible refine (HW.out _).mono ?_); rintro e w1 ⟨rfl, rfl⟩)))
    go_wp2_with fail
    go_ret
    exact ⟨rfl, Below.drew (Ext.refl w)⟩
  | false =>
    rw [HE.out]
    go_enter Tryz.func45, Tryz.ntmps45
    go_wp2_with fail
    refine HM.out.mono ?_
    rintro e w1 ⟨rfl, rfl⟩
    go_wp2_with fail
    go_region_held3 (fun w' => w'.cell? ⟨g, 4, none⟩ = some (.int .i64 (s : Int)))
      (first | with_reducible exact c4 | assumption | go_keep)
      (first | (go_at_call 40; ((with_reducible refine (HW.out _).mono ?_); rintro e w1 ⟨rfl, rfl⟩)))
    go_wp2_with fail
    go_ret
    exact ⟨rfl, Below.drew (Ext.refl w)⟩
def upE (m : DM) : Int := if m.up = true then 0 else 5
theorem wrunning_of {w : World} {g d s : Nat} {r inc : Int} {F : Nat → Prop} {m : DM} (h : LogAt w g d r inc s) (hd : PDisk w d F m) :
    Calls Tryz.prog 46 #[.pointer (some ⟨g, 0, none⟩)] w fun e w' => e = .returned (.int .i64 (upE m)) ∧ w = w' := by
  obtain ⟨c0, c1, c2, c3, c4⟩ := h.cells
  have HM := Lib.hid (wmade_yes g w c0)
  have hu := up_pd hd
  obtain ⟨b, hb⟩ : ∃ b, m.up = b := ⟨_, rfl⟩
  rw [hb] at hu
  have HU := Lib.hid hu
  have HE : Hid (upE m = if b = true then 0 else 5) := Lib.hid (by unfold upE; rw [hb])
  clear h hd hu c0 c2 c3 c4 hb
  cases b with
  | true =>
    rw [HE.out]
    go_enter Tryz.func46, Tryz.ntmps46
    go_wp2_with fail
    refine HM.out.mono ?_
    rintro e w1 ⟨rfl, rfl⟩
    go_wp2_with fail
    refine HU.out.mono ?_
    rintro e w1 ⟨rfl, rfl⟩
    go_wp2_with fail
    go_ret
    exact ⟨rfl, rfl⟩
  | false =>
    rw [HE.out]
    go_enter Tryz.func46, Tryz.ntmps46
    go_wp2_with fail
    refine HM.out.mono ?_
    rintro e w1 ⟨rfl, rfl⟩
    go_wp2_with fail
    refine HU.out.mono ?_
    rintro e w1 ⟨rfl, rfl⟩
    go_wp2_with fail
    go_ret
    exact ⟨rfl, rfl⟩
theorem wsnap_of {w : World} {g d s : Nat} {r inc : Int} (h : LogAt w g d r inc s) :
    Calls Tryz.prog 16 #[.pointer (some ⟨g, 0, none⟩)] w fun e w' => e = .returned (.int .i64 (s : Int)) ∧ w = w' := by
  obtain ⟨c0, c1, c2, c3, c4⟩ := h.cells
  have HM := Lib.hid (wmade_yes g w c0)
  clear h c0 c1 c2 c3
  go_enter Tryz.func16, Tryz.ntmps16
  go_wp2_with fail
  refine HM.out.mono ?_
  rintro e w1 ⟨rfl, rfl⟩
  go_wp2_with fail
  go_ret
  exact ⟨rfl, rfl⟩
def cutB (s : Nat) (n : Int) : Bool := inI s n 1099511627752
set_option maxHeartbeats 800000 in
theorem wcut_of {w : World} {g d s : Nat} {r inc : Int} (h : LogAt w g d r inc s) (n : Int) :
    Calls Tryz.prog 14 #[.pointer (some ⟨g, 0, none⟩), .int .i64 n] w fun e w' => e = .returned (.int .i64 (if cutB s n = true then 0 else 2)) ∧ LogAt w' g d r inc (if cutB s n = true then n.toNat else s) ∧ Mod (fun k => k = g) w w' := by
  obtain ⟨c0, c1, c2, c3, c4⟩ := h.cells
  have hf := frozen_of_row w g 4 _ _ h.row
  have HM := Lib.hid (wmade_yes g w c0)
  have H := Lib.hid h
  have HW := Lib.hid (isWithin_of (s : Int) n 1099511627752 w)
  have HC : Hid (inI (s : Int) n 1099511627752 = cutB s n) := Lib.hid rfl
  rw [HC.out] at HW
  have HN : Hid (cutB s n = true → n = (n.toNat : Int)) := Lib.hid fun hc => by
    unfold cutB inI at hc
    simp at hc
    omega
  clear h c0 c1 c2 c3
  obtain ⟨b, hb⟩ : ∃ b, cutB s n = b := ⟨_, rfl⟩
  rw [hb] at HW HN ⊢
  clear hb HC
  cases b with
  | true =>
    go_enter Tryz.func14, Tryz.ntmps14
    go_wp2_with fail
    refine HM.out.mono ?_
    rintro e w1 ⟨rfl, rfl⟩
    go_wp2_with fail
    refine HW.out.mono ?_
    rintro e w1 ⟨rfl, rfl⟩
    go_wp2_with fail
    go_ret
    refine ⟨rfl, ⟨?_⟩, (Mod.refl (fun k => k = g) w).setCell (p := ⟨g, 4, none⟩) (.inl rfl) _⟩
    have := row_set (cs' := #[.pointer (some ⟨g, 0, none⟩), .pointer (some ⟨d, 0, none⟩), .int .i64 r, .int .i64 inc, .int .i64 n]) 4 H.out.row (.int .i64 n) rfl
    rw [← HN.out trivial]
    exact this
  | false =>
    go_enter Tryz.func14, Tryz.ntmps14
    go_wp2_with fail
    refine HM.out.mono ?_
    rintro e w1 ⟨rfl, rfl⟩
    go_wp2_with fail
    refine HW.out.mono ?_
    rintro e w1 ⟨rfl, rfl⟩
    go_wp2_with fail
    go_ret
    exact ⟨rfl, H.out, Mod.refl _ w⟩
theorem recordPlace_of (i : Nat) (h1 : 1 ≤ i) (h2 : i ≤ 2000000000000) (w : World) : Calls Tryz.prog 52 #[.int .i64 (i : Int)] w fun e w' => e = .returned (.int .i64 (placeW (i : Int))) ∧ w = w' := by
  have h3 : placeW (i : Int) = (((i - 1) % 24 : Nat) : Int) := by unfold placeW; omega
  obtain ⟨k, rfl⟩ : ∃ k, i = k + 1 := ⟨i - 1, by omega⟩
  rw [h3]
  go_enter Tryz.func52, Tryz.ntmps52
  go_wp2_with fail
  go_ret
  refine ⟨?_, rfl⟩
  congr 2
theorem framePlace_of (i : Nat) (k : Int) (hk : k = 0 ∨ k = 1) (h1 : 1 ≤ i) (h2 : i ≤ 2000000000000) (w : World) : Calls Tryz.prog 51 #[.int .i64 (i : Int), .int .i64 k] w fun e w' => e = .returned (.int .i64 (2 * placeW (i : Int) + k)) ∧ w = w' := by
  have HP := Lib.hid (recordPlace_of i h1 h2 w)
  obtain ⟨q, hq, hq24⟩ := placeW_nat (i := (i : Int))
  rw [hq] at HP ⊢
  clear h1 h2 hq
  rcases hk with rfl | rfl
  · go_enter Tryz.func51, Tryz.ntmps51
    go_wp2_with fail
    refine HP.out.mono ?_
    rintro e w1 ⟨rfl, rfl⟩
    go_wp2_with fail
    go_ret
    refine ⟨?_, rfl⟩
    congr 2
  · go_enter Tryz.func51, Tryz.ntmps51
    go_wp2_with fail
    refine HP.out.mono ?_
    rintro e w1 ⟨rfl, rfl⟩
    go_wp2_with fail
    go_ret
    refine ⟨?_, rfl⟩
    congr 2
end Go.Proofs.YtnlappoocffcpaaGreatDoor

/-
  Plain facts on frames, without any program: a frame's bytes, which bytes are good, that all good ones have one sum.
  The contract of the document's own copy of bytes: new memory that holds the same bytes; nothing that was there is written.
  The contract of the document's own comparison of bytes: it tells whether two lists of bytes are the same, and leaves the memory as it was.
  The contracts of the document's own Copy and Same, in the words 'By' (a slice that reads as bytes) and 'Ext' (nothing that was there is written).
  Append of a slice that came in, nil or not, onto a row of the call's own.
  The contracts of the frame's small functions (Room, wholeSectors, isZero; the document's Room and blank), and of the library's Clone, Equal, Count at bytes.
  The contracts of the library's Clone, Equal, Count at bytes, and of isZero, in the words 'By' and 'Ext'.
  The contracts of the tag functions that look a region up: find, sectors, Places, Wide; and within.
  The contracts of the program's nearest and May.
  The contract of the program's May.
  The contract of Join (and of the library's Grow and Concat at bytes, which it calls): new memory that holds the lists one behind the other.
  The contract of Join in the words 'By' (a slice that reads as bytes) and 'Ext' (nothing that was there is written).
  The contracts of the octet functions that only reckon: bound and Fits of the program, width and Fits of the document's answer.
  The contracts of Get, the program's and the document's: the number that stands at a place of bytes, or which error.
  The contract of the program's own Get: it answers as the document's Get does.
  How what is known of the table of bounds is carried over calls that write nothing that was there.
  The contracts of Put, the program's and the document's: the bytes of a number in a width, or which error.
  The contracts of Put, Get and Fits in the words 'By' and 'Ext', and facts on lists of bytes that go with them.
-/
import Derived.Test.YtmacebglfniegaaGreatDoorQ01
import Derived.Test.YtmacebglfniegaaGreatDoorQ06
import Derived.Test.YtmacebglfniegaaGreatDoorProg
import Derived.WalkSpells
import Derived.OwnWalk
import Derived.Laws.AppendOwnNone
import Derived.Lib.Hide
import Derived.BigQuiet
import Derived.Deep.QuietTactic
import Derived.Outline
import Derived.WalkKit
import Derived.WalkLawsBesides
import Derived.Lib.SliceRun
import Derived.Shelf.Bytes.SlCountOne
import Derived.Shelf.Bytes.SlSmallAll
import Derived.Deep.RegionHeld3
import Derived.Laws.Tables
import Derived.Laws.CopyOwn
import Derived.IntWalk
import Derived.Lib.AppendZeros
import Derived.Laws.Bits64
import Derived.Deep.DeepFit
import Derived.Laws.BitsAllLaws
namespace Go.Proofs.YtmacebglfniegaaGreatDoor
set_option maxRecDepth 100000
open Go

/-- The most that a body has in so many sectors. -/
def roomN (s : Int) : Nat := if s = 1 then 43 else if s = 2 then 88 else 0
theorem roomN_one : roomN 1 = 43 := rfl
theorem roomN_two : roomN 2 = 88 := rfl
theorem roomN_no {s : Int} (h1 : s ≠ 1) (h2 : s ≠ 2) : roomN s = 0 := by unfold roomN; rw [if_neg h1, if_neg h2]
theorem roomN_le (s : Int) : roomN s ≤ 88 := by unfold roomN; (repeat' split) <;> omega
theorem roomN_pos {s : Int} (h : 0 < roomN s) : s = 1 ∨ s = 2 := by
  by_cases h1 : s = 1
  · exact .inl h1
  · by_cases h2 : s = 2
    · exact .inr h2
    · rw [roomN_no h1 h2] at h; omega

/-- What stands ahead of a frame's sum; a frame. -/
def frameH (body own : List Nat) (S : Nat) : List Nat := digs 2 body.length ++ own ++ body ++ List.replicate (64 * S - 21 - body.length) 0
def frameL (body own : List Nat) (S : Nat) : List Nat := frameH body own S ++ digs 4 (crcS (frameH body own S))
theorem frameH_lt {body own : List Nat} {S : Nat} (hb : ∀ x ∈ body, x < 256) (ho : ∀ x ∈ own, x < 256) : ∀ x ∈ frameH body own S, x < 256 := by
  intro x hx
  simp only [frameH, List.mem_append, List.mem_replicate] at hx
  rcases hx with ((h | h) | h) | ⟨_, h⟩
  · exact digs_lt _ _ x h
  · exact ho x h
  · exact hb x h
  · omega
theorem frameL_lt {body own : List Nat} {S : Nat} (hb : ∀ x ∈ body, x < 256) (ho : ∀ x ∈ own, x < 256) : ∀ x ∈ frameL body own S, x < 256 := by
  intro x hx
  rcases List.mem_append.1 hx with h | h
  · exact frameH_lt hb ho x h
  · exact digs_lt _ _ x h
theorem frameH_len {body own : List Nat} {S : Nat} (ho : own.length = 15) (hr : body.length ≤ 64 * S - 21) (hS : 1 ≤ S) : (frameH body own S).length = 64 * S - 4 := by
  simp only [frameH, List.length_append, digs_length, ho, List.length_replicate]
  omega
theorem frameL_len {body own : List Nat} {S : Nat} (ho : own.length = 15) (hr : body.length ≤ 64 * S - 21) (hS : 1 ≤ S) : (frameL body own S).length = 64 * S := by
  rw [frameL, List.length_append, frameH_len ho hr hS, digs_length]
  omega
theorem room_fits {n S : Nat} (h : n ≤ roomN (S : Int)) (hS : 0 < roomN (S : Int)) : n ≤ 64 * S - 21 ∧ 1 ≤ S ∧ S ≤ 2 := by
  rcases roomN_pos hS with h1 | h1
  · have : S = 1 := by omega
    subst this
    rw [show roomN ((1 : Nat) : Int) = 43 from rfl] at h
    omega
  · have : S = 2 := by omega
    subst this
    rw [show roomN ((2 : Nat) : Int) = 88 from rfl] at h
    omega

/-- What is read of bytes: the body's length, the tag's bytes, the body. -/
def bodyN (l : List Nat) : Nat := num (l.take 2)
def tagOf (l : List Nat) : List Nat := (l.drop 2).take 15
def bodyOf (l : List Nat) : List Nat := (l.drop 17).take (bodyN l)
def szB (l : List Nat) : Bool := decide (l.length = 64) || decide (l.length = 128)
def goodB (l : List Nat) : Bool := szB l && PV (tagOf l) && decide (bodyN l ≤ roomN ((l.length / 64 : Nat) : Int)) && decide (l = frameL (bodyOf l) (tagOf l) (l.length / 64))
def zeroB (l : List Nat) : Bool := l.all fun x => x == 0

theorem read_len {body own : List Nat} {S : Nat} (h : body.length < 65536) : bodyN (frameL body own S) = body.length := by
  have e : (frameL body own S).take 2 = digs 2 body.length := by
    simp only [frameL, frameH, List.append_assoc]
    rw [List.take_append_of_le_length (by rw [digs_length]; exact Nat.le_refl _), List.take_of_length_le (by rw [digs_length]; exact Nat.le_refl _)]
  unfold bodyN
  rw [e, num_digs 2 _ (by simpa using h)]
theorem read_tag {body own : List Nat} {S : Nat} (ho : own.length = 15) : tagOf (frameL body own S) = own := by
  unfold tagOf
  simp only [frameL, frameH, List.append_assoc]
  rw [List.drop_left' (digs_length 2 _), List.take_append_of_le_length (by omega), List.take_of_length_le (by omega)]
theorem read_body {body own : List Nat} {S : Nat} (ho : own.length = 15) (h : body.length < 65536) : bodyOf (frameL body own S) = body := by
  unfold bodyOf
  rw [read_len h]
  simp only [frameL, frameH]
  rw [List.append_assoc, List.append_assoc, List.drop_left' (by rw [List.length_append, digs_length, ho]), List.take_append_of_le_length (Nat.le_refl _), List.take_of_length_le (Nat.le_refl _)]

/-- What Seal makes is good. -/
theorem seal_good {a b c d e S : Nat} {body : List Nat} (hm : mayB a b c d e = true) (hr : body.length ≤ roomN (S : Int)) (hS : 0 < roomN (S : Int)) : goodB (frameL body (tagBytes a b c d e) S) = true := by
  have hf := room_fits hr hS
  have hlen := frameL_len (S := S) (tagBytes_len a b c d e) hf.1 hf.2.1
  have h88 := roomN_le (S : Int)
  have hdiv : 64 * S / 64 = S := by omega
  unfold goodB szB
  rw [read_tag (tagBytes_len a b c d e), read_body (tagBytes_len a b c d e) (by omega), read_len (by omega), hlen, hdiv, (PV_tag hm).1]
  simp only [decide_true, Bool.and_true, hr]
  have : S = 1 ∨ S = 2 := by omega
  rcases this with rfl | rfl <;> rfl
/-- What is good, sealed again, is those bytes. -/
theorem good_parts {l : List Nat} (h : goodB l = true) : (l.length = 64 ∨ l.length = 128) ∧ PV (tagOf l) = true ∧ bodyN l ≤ roomN ((l.length / 64 : Nat) : Int) ∧ l = frameL (bodyOf l) (tagOf l) (l.length / 64) := by
  unfold goodB szB at h
  simp only [Bool.and_eq_true, Bool.or_eq_true, decide_eq_true_eq] at h
  exact ⟨h.1.1.1, h.1.1.2, h.1.2, h.2⟩

theorem zero_PV {l : List Nat} (h : zeroB l = true) (hl : 17 ≤ l.length) : PV (tagOf l) = false := by
  have hz : ∀ x ∈ l, x = 0 := by
    intro x hx
    have := List.all_eq_true.1 h x hx
    simpa using this
  have hlen : (tagOf l).length = 15 := by unfold tagOf; rw [List.length_take, List.length_drop]; omega
  have hrep : tagOf l = List.replicate 15 0 := by
    refine List.eq_replicate_iff.2 ⟨hlen, fun x hx => hz x (List.mem_of_mem_drop (List.mem_of_mem_take hx))⟩
  rw [hrep]
  decide
theorem good_not_zero {l : List Nat} (h : goodB l = true) : zeroB l = false := by
  obtain ⟨hs, hp, _, _⟩ := good_parts h
  by_cases hz : zeroB l = true
  · have := zero_PV hz (by omega)
    rw [this] at hp
    cases hp
  · simpa using hz
end Go.Proofs.YtmacebglfniegaaGreatDoor

namespace Go.Proofs.YtmacebglfniegaaGreatDoor
set_option maxRecDepth 100000
open Go Go.RowKit

theorem byte_info : (Tryz.prog.info? 5).map (fun i => (i.zero, i.size, i.bytes)) = some (some (.int .u8 0), 1, 1) := by kernel_rfl

end Go.Proofs.YtmacebglfniegaaGreatDoor

namespace Go.Proofs.YtmacebglfniegaaGreatDoor
set_option maxRecDepth 100000
open Go Go.RowKit

end Go.Proofs.YtmacebglfniegaaGreatDoor

namespace Go.Proofs.YtmacebglfniegaaGreatDoor
set_option maxRecDepth 100000
open Go Go.RowKit

end Go.Proofs.YtmacebglfniegaaGreatDoor

namespace Go.Proofs.YtmacebglfniegaaGreatDoor
set_option maxRecDepth 100000
open Go Go.RowKit

end Go.Proofs.YtmacebglfniegaaGreatDoor

namespace Go.Proofs.YtmacebglfniegaaGreatDoor
set_option maxRecDepth 100000
open Go Go.RowKit

end Go.Proofs.YtmacebglfniegaaGreatDoor

namespace Go.Proofs.YtmacebglfniegaaGreatDoor
set_option maxRecDepth 100000
open Go Go.RowKit Go.Lib

/-- A slice that reads as bytes, cell by cell, whatever its address. -/
theorem By.cells {w : World} {A : Option Addr} {n c : Nat} {l : List Nat} (h : By w A n c l) {ad : Addr} (hA : A = some ad) : ∀ i, i < n → w.cell? (ad.add i) = some (.int .u8 ((l.map fun (b : Nat) => (b : Int)).getD i 0)) := by
  intro i hi
  obtain ⟨g, o, x, hA2, _, hx, _, hc⟩ := h.rd.at_ (k := i) (by rw [h.len]; exact hi)
  rw [hA] at hA2
  injection hA2 with hA2
  subst hA2
  rw [Addr.add_lit, hc]
  have e : (l.map fun (b : Nat) => (b : Int)).getD i 0 = (x : Int) := by
    rw [List.getD_eq_getElem?_getD, List.getElem?_map, hx]
    rfl
  rw [e]
theorem bytesOf_inj {l l' : List Nat} (hl : ∀ b ∈ l, b < 256) (hl' : ∀ b ∈ l', b < 256) (h : bytesOf (l.map fun (b : Nat) => (b : Int)) = bytesOf (l'.map fun (b : Nat) => (b : Int))) : l = l' := by
  unfold bytesOf at h
  rw [List.map_map, List.map_map] at h
  have hlen : l.length = l'.length := by
    have := congrArg List.length h
    simpa using this
  refine List.ext_getElem hlen fun i h1 h2 => ?_
  have e := congrArg (fun z => z[i]?) h
  simp only [List.getElem?_map, List.getElem?_eq_getElem h1, List.getElem?_eq_getElem h2, Option.map_some, Option.some.injEq, Function.comp, Int.toNat_natCast] at e
  have b1 := hl _ (List.getElem_mem h1)
  have b2 := hl' _ (List.getElem_mem h2)
  have e2 := congrArg UInt8.toNat e
  simp only [UInt8.toNat_ofNat'] at e2
  omega
theorem conv_by {w : World} {A : Option Addr} {n c : Nat} {l : List Nat} (h : By w A n c l) : (convert 45 9 (.slice A n c)).run Tryz.prog w = .ok (.string (strOfNums (l.map fun (b : Nat) => (b : Int)))) w := by
  by_cases hn : n = 0
  · subst hn
    have hl0 : l = [] := List.eq_nil_of_length_eq_zero h.len
    subst hl0
    exact run_convert_bytes_zero w 45 5 Tryz.underlying45 Tryz.underlying5 A c _ Tryz.underlying9
  · obtain ⟨g, o, x, hA, _⟩ := h.rd.at_ (k := 0) (by rw [h.len]; omega)
    subst hA
    exact run_convert_bytes_arg (P := Tryz.prog) w 45 5 Tryz.underlying45 Tryz.underlying5 g o n c (l.map fun (b : Nat) => (b : Int)) (by rw [List.length_map, h.len]) (fun i hi => by have := h.cells rfl i hi; rwa [Addr.add_lit] at this) _ Tryz.underlying9

theorem equal_by (A A' : Option Addr) (l l' : List Nat) (n n' c c' : Nat) (w : World) (hb : By w A n c l) (hb' : By w A' n' c' l') :
    Calls Tryz.prog 171 #[.slice A n c, .slice A' n' c'] w fun e w' => e = .returned (.bool (decide (l = l'))) ∧ w = w' := by
  have h1 := conv_by hb
  have h2 := conv_by hb'
  have HF : Hid (decide (l = l') = ((strOfNums (l.map fun (b : Nat) => (b : Int))).toList == (strOfNums (l'.map fun (b : Nat) => (b : Int))).toList)) := by
    refine Lib.hid ?_
    rw [strOfNums_toList, strOfNums_toList]
    by_cases h : l = l'
    · subst h; simp
    · rw [decide_eq_false h]
      symm
      rw [beq_eq_false_iff_ne]
      exact fun hh => h (bytesOf_inj hb.rd.lt hb'.rd.lt hh)
  clear hb hb'
  go_enter Tryz.func171, Tryz.ntmps171
  go_wp2_with fail
  go_ret
  exact ⟨by rw [HF.out]; rfl, rfl⟩

end Go.Proofs.YtmacebglfniegaaGreatDoor

namespace Go.Proofs.YtmacebglfniegaaGreatDoor
set_option maxRecDepth 100000
open Go Go.RowKit

/-- What the table of regions holds. -/
def LaidT (w : World) : Prop := ∀ r : Nat, r < 6 → w.cell? ⟨1, r * 2, none⟩ = some (.int .i64 (plc r)) ∧ w.cell? ⟨1, r * 2 + 1, none⟩ = some (.int .i64 (wid r))
theorem LaidT.ext {a b : World} (h : LaidT a) (k : Ext a b) : LaidT b := by
  have hlt : 1 < a.heap.size := World.block_lt_of_cell? a _ (h 0 (by omega)).1
  exact fun r hr => ⟨(Below.cell k (p := ⟨_, _, none⟩) hlt).trans (h r hr).1, (Below.cell k (p := ⟨_, _, none⟩) hlt).trans (h r hr).2⟩

theorem find_case (r : Int) (k p q : Nat) (w : World) (hr : r = k) (hk : k < 6) (hp : p = plc r) (hq : q = wid r) (h0 : w.cell? ⟨1, k * 2, none⟩ = some (.int .i64 p)) (h1 : w.cell? ⟨1, k * 2 + 1, none⟩ = some (.int .i64 q)) :
    Calls Tryz.prog 138 #[.int .i64 r] w fun e w' => e = .returned (.agg #[.int .i64 p, .int .i64 q]) ∧ Ext w w' := by
  subst hr
  have HP := Lib.hid hp
  have HQ := Lib.hid hq
  have hb := World.block_lt_of_cell? w _ h0
  have g0 := (Below.cell ((Ext.refl w).alloc (.cells #[.int .i64 0, .int .i64 0] 207)) hb).trans h0
  have g1 := (Below.cell ((Ext.refl w).alloc (.cells #[.int .i64 0, .int .i64 0] 207)) (p := ⟨1, k * 2 + 1, none⟩) hb).trans h1
  clear hb h0 h1 hp hq
  go_enter Tryz.func138, Tryz.ntmps138
  go_wp2
  exact bodyPost_ret (v := .agg #[.int .i64 p, .int .i64 q]) (by simp [results, Tryz.results138, go_sem]) rfl ⟨rfl, (Ext.refl w).alloc _⟩

set_option maxHeartbeats 800000 in
theorem find_any (r : Int) (w : World) (hL : LaidT w) :
    Calls Tryz.prog 138 #[.int .i64 r] w fun e w' => e = .returned (.agg #[.int .i64 (plc r), .int .i64 (wid r)]) ∧ Ext w w' := by
  by_cases hn : r < 0
  · have H1 := Lib.hid (plc_out (r := r) (.inl (by omega)))
    have H2 := Lib.hid (wid_out (r := r) (.inl (by omega)))
    go_enter Tryz.func138, Tryz.ntmps138
    go_wp2
    exact bodyPost_ret (v := .agg #[.int .i64 0, .int .i64 0]) (by simp [results, Tryz.results138, go_sem]) rfl ⟨by rw [H1.out, H2.out]; rfl, (Ext.refl w).alloc _⟩
  by_cases hg : 6 ≤ r
  · have H1 := Lib.hid (plc_out (r := r) (.inr (by omega)))
    have H2 := Lib.hid (wid_out (r := r) (.inr (by omega)))
    go_enter Tryz.func138, Tryz.ntmps138
    go_wp2
    exact bodyPost_ret (v := .agg #[.int .i64 0, .int .i64 0]) (by simp [results, Tryz.results138, go_sem]) rfl ⟨by rw [H1.out, H2.out]; rfl, (Ext.refl w).alloc _⟩
  obtain ⟨r, rfl⟩ := Int.eq_ofNat_of_zero_le (show 0 ≤ r by omega)
  exact find_case r r _ _ w rfl (by omega) rfl rfl (hL r (by omega)).1 (hL r (by omega)).2

end Go.Proofs.YtmacebglfniegaaGreatDoor

namespace Go.Proofs.YtmacebglfniegaaGreatDoor
set_option maxRecDepth 100000
open Go Go.RowKit

theorem below_setRow' {w w1 : World} {g : Nat} (h : Ext w w1) (hg : w.heap.size ≤ g) (cs : Array Value) : Ext w (w1.setRow g cs) := below_setRow h hg cs
theorem LaidT.of_setRow {w : World} (h : LaidT w) (g : Nat) (hg : 1 ≠ g) (cs : Array Value) : LaidT (w.setRow g cs) := fun r hr => ⟨(cell_setRow_other w g cs _ hg).trans (h r hr).1, (cell_setRow_other w g cs _ hg).trans (h r hr).2⟩

/-- What holds while nearest makes its answer: the tag lies in its block g, the answer's block g + 1 has five cells. -/
def NearS (w : World) (g : Nat) (a b c d e : Int) (w' : World) : Prop :=
  w'.cell? ⟨g, 0, none⟩ = some (.int .i64 a) ∧ w'.cell? ⟨g, 1, none⟩ = some (.int .i64 b) ∧ w'.cell? ⟨g, 2, none⟩ = some (.int .i64 c) ∧ w'.cell? ⟨g, 3, none⟩ = some (.int .i64 d) ∧ w'.cell? ⟨g, 4, none⟩ = some (.int .i64 e) ∧
    Hid (LaidT w' ∧ Ext w w' ∧ w.heap.size ≤ g ∧ 1 < g ∧ ∃ X : Array Value, X.size = 5 ∧ w'.heap[g + 1]? = some (.cells X 44 (0, 0)))
theorem NearS.ext {w w' w1 : World} {g : Nat} {a b c d e : Int} (h : NearS w g a b c d e w') (k : Ext w' w1) : NearS w g a b c d e w1 := by
  obtain ⟨h0, h1, h2, h3, h4, ⟨hL, hE, hg, hg2, X, hX, hh⟩⟩ := h
  have hlt : g < w'.heap.size := by have := World.block_lt_of_cell? w' _ h0; simpa using this
  exact ⟨(Below.cell k (p := ⟨g, 0, none⟩) hlt).trans h0, (Below.cell k (p := ⟨g, 1, none⟩) hlt).trans h1, (Below.cell k (p := ⟨g, 2, none⟩) hlt).trans h2, (Below.cell k (p := ⟨g, 3, none⟩) hlt).trans h3, (Below.cell k (p := ⟨g, 4, none⟩) hlt).trans h4,
    ⟨hL.ext k, hE.trans k, hg, hg2, X, hX, (k.block (g + 1) (Array.getElem?_eq_some_iff.1 hh).1).trans hh⟩⟩
theorem NearS.drew {w w' : World} {g : Nat} {a b c d e : Int} (h : NearS w g a b c d e w') : NearS w g a b c d e w'.drew := h.ext ((Ext.refl w').drew)
theorem NearS.store {w w' : World} {g : Nat} {a b c d e : Int} (h : NearS w g a b c d e w') (cs : Array Value) (hcs : cs.size = 5) : NearS w g a b c d e (w'.setRow (g + 1) cs) := by
  obtain ⟨h0, h1, h2, h3, h4, ⟨hL, hE, hg, hg2, X, hX, hh⟩⟩ := h
  have hne : g ≠ g + 1 := by omega
  exact ⟨(cell_setRow_other w' (g + 1) cs _ hne).trans h0, (cell_setRow_other w' (g + 1) cs _ hne).trans h1, (cell_setRow_other w' (g + 1) cs _ hne).trans h2, (cell_setRow_other w' (g + 1) cs _ hne).trans h3, (cell_setRow_other w' (g + 1) cs _ hne).trans h4,
    ⟨hL.of_setRow _ (by omega) cs, below_setRow' hE (by omega) cs, hg, hg2, cs, hcs, setRow_heap w' (g + 1) X cs _ _ hh⟩⟩
theorem NearS.laid {w w' : World} {g : Nat} {a b c d e : Int} (h : NearS w g a b c d e w') : LaidT w' := h.2.2.2.2.2.out.1
theorem NearS.row {w w' : World} {g : Nat} {a b c d e : Int} (h : NearS w g a b c d e w') : ∃ X : Array Value, X.size = 5 ∧ w'.heap[g + 1]? = some (.cells X 44 (0, 0)) := h.2.2.2.2.2.out.2.2.2.2
theorem NearS.kept {w w' : World} {g : Nat} {a b c d e : Int} (h : NearS w g a b c d e w') : Ext w w' := h.2.2.2.2.2.out.2.1
theorem NearS.free {w w' : World} {g : Nat} {a b c d e : Int} (h : NearS w g a b c d e w') (i : Nat) (hi : i < 5) : (∃ v, w'.cell? ⟨g + 1, i, none⟩ = some v) ∧ w'.frozen? ⟨g + 1, i, none⟩ = false := by
  obtain ⟨X, hX, hh⟩ := h.row
  refine ⟨⟨X[i], ?_⟩, ?_⟩
  · rw [cell_of_row w' (g + 1) i X _ _ hh, Array.getElem?_eq_getElem (by omega)]
  · exact frozen_of_row w' (g + 1) i X _ hh
theorem NearS.all {w w' : World} {g : Nat} {a b c d e : Int} (h : NearS w g a b c d e w') : (w'.cell? ⟨g, 0, none⟩ = some (.int .i64 a) ∧ w'.cell? ⟨g, 1, none⟩ = some (.int .i64 b) ∧ w'.cell? ⟨g, 2, none⟩ = some (.int .i64 c) ∧ w'.cell? ⟨g, 3, none⟩ = some (.int .i64 d) ∧ w'.cell? ⟨g, 4, none⟩ = some (.int .i64 e)) ∧
    ∃ x0 x1 x2 x3 x4, w'.cell? ⟨g + 1, 0, none⟩ = some x0 ∧ w'.cell? ⟨g + 1, 1, none⟩ = some x1 ∧ w'.cell? ⟨g + 1, 2, none⟩ = some x2 ∧ w'.cell? ⟨g + 1, 3, none⟩ = some x3 ∧ w'.cell? ⟨g + 1, 4, none⟩ = some x4 ∧
      w'.frozen? ⟨g + 1, 0, none⟩ = false ∧ w'.frozen? ⟨g + 1, 1, none⟩ = false ∧ w'.frozen? ⟨g + 1, 2, none⟩ = false ∧ w'.frozen? ⟨g + 1, 3, none⟩ = false ∧ w'.frozen? ⟨g + 1, 4, none⟩ = false := by
  obtain ⟨⟨x0, c0⟩, f0⟩ := h.free 0 (by omega)
  obtain ⟨⟨x1, c1⟩, f1⟩ := h.free 1 (by omega)
  obtain ⟨⟨x2, c2⟩, f2⟩ := h.free 2 (by omega)
  obtain ⟨⟨x3, c3⟩, f3⟩ := h.free 3 (by omega)
  obtain ⟨⟨x4, c4⟩, f4⟩ := h.free 4 (by omega)
  exact ⟨⟨h.1, h.2.1, h.2.2.1, h.2.2.2.1, h.2.2.2.2.1⟩, x0, x1, x2, x3, x4, c0, c1, c2, c3, c4, f0, f1, f2, f3, f4⟩
end Go.Proofs.YtmacebglfniegaaGreatDoor

namespace Go.Proofs.YtmacebglfniegaaGreatDoor
set_option maxRecDepth 100000
open Go Go.RowKit

theorem Ext.cell {a b : World} {p : Addr} {v : Value} (k : Ext a b) (h : a.cell? p = some v) : b.cell? p = some v := (Below.cell k (World.block_lt_of_cell? a _ h)).trans h

end Go.Proofs.YtmacebglfniegaaGreatDoor

namespace Go.Proofs.YtmacebglfniegaaGreatDoor
set_option maxRecDepth 100000
open Go Go.RowKit

theorem size_zeroCells_one (n : Nat) (z : Value) : (Builtin.zeroCells #[z] n).size = n := by
  simp [Builtin.zeroCells]

set_option maxHeartbeats 800000 in
/-- slices.Grow of the nil slice of bytes. -/
theorem grow_nil (n : Nat) (w : World) (hn : n ≤ 140737488355328) :
    Calls Tryz.prog 176 #[.slice none 0 0, .int .i64 n] w fun e w' => ∃ v, e = .returned v ∧ w'.ownsRow w.heap.size 5 1 v 0 [] ∧ Below w.heap.size w w' := by
  obtain ⟨i0, hi, hz0, hz1, hz2⟩ := info_parts byte_info
  by_cases h0 : n = 0
  · subst h0
    go_enter Tryz.func176, Tryz.ntmps176
    go_wp2_with fail
    go_ret
    exact ⟨_, rfl, World.ownsRow_nil _ _ _ _, Below.refl _ _⟩
  · have hrun := fun ty => Lib.run_append_nil_zeros (P := Tryz.prog) w 45 3 ty 5 i0 (.int .u8 0) .i64 .i64 Tryz.underlying45 Tryz.underlying3 hi hz0 n (by omega) (by omega) (by omega) (by rw [hz2]; omega)
    have HR := Lib.hid hrun
    clear hrun
    have hcap := grownCap_le_maxLen w n 0 5 (by unfold maxLen; omega)
    have hge := grownCap_ge w n 0 5
    have hcs : (Builtin.zeroCells (Value.int .u8 0).cells n ++ Builtin.zeroCells (Value.int .u8 0).cells (grownCap w n 0 5 - n)).size = grownCap w n 0 5 * 1 := by
      have e : (Value.int IntKind.u8 0).cells = #[Value.int .u8 0] := rfl
      rw [e, Array.size_append, size_zeroCells_one, size_zeroCells_one]
      omega
    have HC := Lib.hid hcs
    clear hcs
    have hmx := hcap
    unfold maxLen at hmx
    generalize hgc : grownCap w n 0 5 = gc at *
    generalize hcells : (Builtin.zeroCells (Value.int .u8 0).cells n ++ Builtin.zeroCells (Value.int .u8 0).cells (gc - n)) = cells at *
    have HM := Lib.hid hcap
    clear hgc hcells hcap
    go_enter Tryz.func176, Tryz.ntmps176
    go_wp2_with (at_builtin; refine Lib.wpList_append_run _ rfl _ _ _ _ rfl _ _ rfl rfl _ _ (HR.out _) ?_)
    go_ret
    exact ⟨_, rfl, (World.ownsRow_made w cells gc (Nat.le_refl _) HM.out HC.out), ((Below.refl _ _).alloc (Nat.le_refl _) _).drew⟩

/-- The lists one behind the other. -/
def cat (ps : List (Value × List Nat)) : List Nat := ps.flatMap (·.2)
theorem cat_step {ps : List (Value × List Nat)} {k : Nat} {p : Value × List Nat} (h : ps[k]? = some p) : cat (ps.take (k + 1)) = cat (ps.take k) ++ p.2 := by
  unfold cat
  rw [List.take_add_one, h, Option.toList_some, List.flatMap_append]
  simp
theorem cat_take_le (ps : List (Value × List Nat)) (k : Nat) : (cat (ps.take k)).length ≤ (cat ps).length := by
  have e : cat ps = cat (ps.take k) ++ cat (ps.drop k) := by
    unfold cat
    rw [← List.flatMap_append, List.take_append_drop]
  rw [e, List.length_append]
  omega
/-- A row of slices of bytes, as Join takes it. -/
structure Parts (w : World) (B : Nat) (G : Option Addr) (m : Nat) (ps : List (Value × List Nat)) : Prop where
  len : ps.length = m
  at_ : 0 < m → ∃ g o, G = some ⟨g, o, none⟩ ∧ g < B ∧ ∀ j p, ps[j]? = some p → w.cell? ⟨g, o + j, none⟩ = some p.1
  each : ∀ p ∈ ps, ∃ A n c, p.1 = .slice A n c ∧ Bs w B A n c p.2
theorem Parts.below {w w' : World} {B : Nat} {G : Option Addr} {m : Nat} {ps : List (Value × List Nat)} (h : Parts w B G m ps) (hb : Below B w w') : Parts w' B G m ps := by
  refine ⟨h.len, fun hm => ?_, fun p hp => ?_⟩
  · obtain ⟨g, o, e, hg, hc⟩ := h.at_ hm
    exact ⟨g, o, e, hg, fun j p hp => (hb.cell (p := ⟨g, o + j, none⟩) hg).trans (hc j p hp)⟩
  · obtain ⟨A, n, c, e, hbs⟩ := h.each p hp
    exact ⟨A, n, c, e, hbs.below hb⟩
theorem Parts.get {w : World} {B : Nat} {G : Option Addr} {m : Nat} {ps : List (Value × List Nat)} (h : Parts w B G m ps) {k : Nat} (hk : k < m) :
    ∃ g o A n c l, G = some ⟨g, o, none⟩ ∧ g < B ∧ ps[k]? = some (.slice A n c, l) ∧ w.cell? ⟨g, o + k, none⟩ = some (.slice A n c) ∧ Bs w B A n c l := by
  obtain ⟨g, o, e, hg, hc⟩ := h.at_ (by omega)
  have hk' : k < ps.length := by rw [h.len]; exact hk
  obtain ⟨A, n, c, e1, hbs⟩ := h.each ps[k] (List.getElem_mem hk')
  have hp : ps[k]? = some (.slice A n c, ps[k].2) := by rw [List.getElem?_eq_getElem hk', ← e1]
  exact ⟨g, o, A, n, c, ps[k].2, e, hg, hp, hc k _ hp, hbs⟩
theorem cat_len_step {ps : List (Value × List Nat)} {k n : Nat} {v : Value} {l : List Nat} (h : ps[k]? = some (v, l)) (hl : l.length = n) : (cat (ps.take (k + 1))).length = (cat (ps.take k)).length + n := by
  rw [cat_step h, List.length_append, hl]

theorem concat_step {w wr w1 : World} {ps : List (Value × List Nat)} {k n : Nat} {v v1 u : Value} {l : List Nat} (hp : ps[k]? = some (u, l)) (hl : l.length = n)
    (hown : wr.ownsRow w.heap.size 5 1 v (cat (ps.take k)).length (vb (cat (ps.take k)))) (hbel : Below w.heap.size w wr)
    (hown1 : w1.ownsRow w.heap.size 5 1 v1 ((cat (ps.take k)).length + n) (vb (cat (ps.take k)) ++ vb l)) (hg : wr.grownBy w1 v.ownBlock) :
    w1.ownsRow w.heap.size 5 1 v1 (cat (ps.take (k + 1))).length (vb (cat (ps.take (k + 1)))) ∧ Below w.heap.size w w1 := by
  refine ⟨?_, ?_⟩
  · rw [cat_len_step hp hl, cat_step hp, vb_append]
    exact hown1
  · refine hbel.grown hg hbel.size ?_
    intro g hg'
    exact (hown.lt g hg').1

set_option maxHeartbeats 2000000 in
theorem concat_any (G : Option Addr) (m c : Nat) (ps : List (Value × List Nat)) (w : World) (hp : Parts w w.heap.size G m ps) (hm : m ≤ 9000000000000000000) (ht : (cat ps).length ≤ 140737488355328) :
    Calls Tryz.prog 142 #[.slice G m c] w fun e w' => ∃ A' c', e = .returned (.slice A' (cat ps).length c') ∧ w'.ownsRow w.heap.size 5 1 (.slice A' (cat ps).length c') (cat ps).length (vb (cat ps)) ∧ Below w.heap.size w w' := by
  obtain ⟨i0, hi, hz0, hz1, hz2⟩ := info_parts byte_info
  have HP := Lib.hid hp
  clear hp
  go_enter Tryz.func142, Tryz.ntmps142
  go_wp2_with fail
  go_loop [3, 11] (fun s i => ∃ k : Nat, k ≤ m ∧ i = .int .i64 k ∧ s = .int .i64 (((cat (ps.take k)).length : Nat) : Int)) (fun _ i => m - (intOf i).toNat)
  case atStart => exact ⟨0, Nat.zero_le _, rfl, rfl⟩
  case round =>
    obtain ⟨k, hk, rfl, rfl⟩ := hrel
    by_cases hlt : k < m
    · obtain ⟨g, o, A, n, c1, l, hG, _, hpk, hcell, hbs⟩ := HP.out.get hlt
      subst hG
      have HS := Lib.hid (cat_len_step hpk hbs.len)
      have hle : (cat (ps.take (k + 1))).length ≤ (cat ps).length := cat_take_le ps (k + 1)
      rw [HS.out] at hle
      clear hpk hbs
      generalize hsn : (cat (ps.take k)).length = sn at *
      clear hsn
      go_wp2_with fail
      go_round
      case rel => exact ⟨k + 1, by omega, by go_num, by rw [HS.out]; go_num⟩
      case measure => simp [intOf]; omega
    · have HK : Hid (k = m) := Lib.hid (by omega)
      have e0 : cat (ps.take k) = cat ps := by rw [HK.out, List.take_of_length_le (by rw [HP.out.len]; exact Nat.le_refl _)]
      rw [e0]
      clear e0
      go_wp2_with fail
      refine (grow_nil (cat ps).length _ ht).mono ?_
      rintro e w1 ⟨v1, rfl, hown1, hbel1⟩
      have HO1 := Lib.hid hown1
      have HB1 := Lib.hid hbel1
      clear hown1 hbel1 HK
      go_wp2_with fail
      go_loopw [6, 27] (fun v i wr => ∃ k : Nat, k ≤ m ∧ i = .int .i64 k ∧ Hid (wr.ownsRow w.heap.size 5 1 v (cat (ps.take k)).length (vb (cat (ps.take k)))) ∧ Hid (Below w.heap.size w wr)) (fun _ i _ => m - (intOf i).toNat)
      case atStart => exact ⟨0, Nat.zero_le _, rfl, HO1, HB1⟩
      case round =>
        obtain ⟨k, hk, rfl, HO, HB⟩ := hrel
        by_cases hlt : k < m
        · obtain ⟨g, o, A, n, c1, l, hG, _, hpk, hcell, hbs⟩ := (HP.out.below HB.out).get hlt
          subst hG
          have HBS := Lib.hid hbs
          have HPK := Lib.hid hpk
          have hle : (cat (ps.take (k + 1))).length ≤ (cat ps).length := cat_take_le ps (k + 1)
          rw [cat_len_step hpk hbs.len] at hle
          have hsz := HB.out.size
          clear hpk hbs
          rcases A with _ | ad
          · have hc0 : c1 = 0 := HBS.out.nil_ rfl
            subst hc0
            have hn0 : n = 0 := by have := HBS.out.cap; omega
            subst hn0
            have hl0 : l = [] := List.eq_nil_of_length_eq_zero HBS.out.len
            subst hl0
            go_wp2_with (at_builtin; refine wpList_append_own_none rfl _ _ 45 rfl w.heap.size 5 i0 1 Tryz.underlying45 hi _ _ _ rfl HO.out rfl ?_)
            go_roundw
            case rel => exact ⟨k + 1, by omega, by go_num, Lib.hid (by have h := HO.out; rw [cat_step HPK.out]; simpa using h), HB⟩
            case measure => simp [intOf]; omega
          · go_wp2_with (at_builtin; refine wpList_append_own _ rfl _ _ 45 rfl w.heap.size 5 i0 (.int .u8 0) 1 1 Tryz.underlying45 hi hz0 hz1 hz2 rfl (by decide) _ _ _ rfl HO.out ad n c1 (vb l) rfl ?c1 ?c2 ?c3 ?c4 ?c5 ?c6 ?_)
            case c1 => rw [vb_length, HBS.out.len]; omega
            case c2 =>
              intro j u hj
              rw [vb_get] at hj
              obtain ⟨x, hx, rfl⟩ := Option.map_eq_some_iff.1 hj
              have hjl : j < l.length := (List.getElem?_eq_some_iff.1 hx).1
              obtain ⟨g', o', y, hA, _, hy, _, hc⟩ := HBS.out.rd.at_ hjl
              injection hA with hA
              subst hA
              rw [hx] at hy
              injection hy with hy
              subst hy
              rw [Addr.add_lit, hc]
            case c3 => exact vb_one l
            case c4 => unfold maxLen; omega
            case c5 => omega
            case c6 => exact hsz
            intro v2 w2 hown hg _
            have R := concat_step HPK.out HBS.out.len HO.out HB.out hown hg
            have HO2 := Lib.hid R.1
            have HB2 := Lib.hid R.2
            clear hown hg R
            go_wp2_with fail
            go_roundw
            case rel => exact ⟨k + 1, by omega, by go_num, HO2, HB2⟩
            case measure => simp [intOf]; omega
        · have HK : Hid (k = m) := Lib.hid (by omega)
          have e0 : cat (ps.take k) = cat ps := by rw [HK.out, List.take_of_length_le (by rw [HP.out.len]; exact Nat.le_refl _)]
          have h1 := HO.out
          rw [e0] at h1
          obtain ⟨A', c', hv, _, _⟩ := own_form h1
          subst hv
          have HO3 := Lib.hid h1
          clear h1 e0
          go_wp2_with fail
          go_ret
          exact ⟨A', c', rfl, HO3.out, HB.out⟩

theorem join_any (G : Option Addr) (m c : Nat) (ps : List (Value × List Nat)) (w : World) (hp : Parts w w.heap.size G m ps) (hm : m ≤ 9000000000000000000) (ht : (cat ps).length ≤ 140737488355328) :
    Calls Tryz.prog 87 #[.slice G m c] w fun e w' => ∃ A' c', e = .returned (.slice A' (cat ps).length c') ∧ w'.ownsRow w.heap.size 5 1 (.slice A' (cat ps).length c') (cat ps).length (vb (cat ps)) ∧ Below w.heap.size w w' := by
  have HP := Lib.hid hp
  clear hp
  go_enter Tryz.func87, Tryz.ntmps87
  go_wp2_with fail
  refine (concat_any _ _ _ ps _ HP.out hm ht).mono ?_
  rintro e w1 ⟨A', c', rfl, hown, hbel⟩
  have HO := Lib.hid hown
  have HB := Lib.hid hbel
  clear hown hbel
  go_wp2_with fail
  go_ret
  exact ⟨A', c', rfl, HO.out, HB.out⟩
end Go.Proofs.YtmacebglfniegaaGreatDoor

namespace Go.Proofs.YtmacebglfniegaaGreatDoor
set_option maxRecDepth 100000
open Go Go.RowKit

theorem parts_lit {w : World} {ps : List (Value × List Nat)} {m : Nat} {cs : Array Value} {t : TypeId} (hm : ps.length = m) (hcs : cs = (ps.map (·.1)).toArray) (he : ∀ p ∈ ps, ∃ A n c, p.1 = .slice A n c ∧ By w A n c p.2) :
    Parts (w.alloc (.cells cs t)) (w.alloc (.cells cs t)).heap.size (some ⟨w.heap.size, 0, none⟩) m ps := by
  subst hcs
  refine ⟨hm, fun _ => ⟨_, 0, rfl, by simp, fun j p hp => ?_⟩, fun p hp => ?_⟩
  · rw [Nat.zero_add, cell_of_row _ w.heap.size j _ t (0, 0) (heap_alloc_new w _), List.getElem?_toArray, List.getElem?_map, hp]
    rfl
  · obtain ⟨A, n, c, e, h⟩ := he p hp
    exact ⟨A, n, c, e, h.ext ((Ext.refl w).alloc _)⟩
theorem join_by (ps : List (Value × List Nat)) (m N : Nat) (w : World) (cs : Array Value) (hm : ps.length = m) (hcs : cs = (ps.map (·.1)).toArray) (he : ∀ p ∈ ps, ∃ A n c, p.1 = .slice A n c ∧ By w A n c p.2)
    (hN : (cat ps).length = N) (hb : ∀ b ∈ cat ps, b < 256) (hm9 : m ≤ 1000) (hN9 : N ≤ 140737488355328) :
    Calls Tryz.prog 87 #[.slice (some ⟨w.heap.size, 0, none⟩) m m] (w.alloc (.cells cs 45)) fun e w' => ∃ A' c', e = .returned (.slice A' N c') ∧ By w' A' N c' (cat ps) ∧ Ext w w' := by
  refine (join_any _ m m ps _ (parts_lit hm hcs he) (by omega) (by omega)).mono ?_
  rintro e w' ⟨A', c', rfl, hown, hx⟩
  rw [hN] at hown
  exact ⟨A', c', by rw [hN], Bs.of_own hown hb, ((Ext.refl w).alloc _).trans hx⟩
theorem join2_by {A1 A2 : Option Addr} {n1 n2 c1 c2 : Nat} {l1 l2 : List Nat} (w : World) (h1 : By w A1 n1 c1 l1) (h2 : By w A2 n2 c2 l2) (hN : n1 + n2 ≤ 140737488355328) :
    Calls Tryz.prog 87 #[.slice (some ⟨w.heap.size, 0, none⟩) 2 2] (w.alloc (.cells #[.slice A1 n1 c1, .slice A2 n2 c2] 45)) fun e w' => ∃ A' c', e = .returned (.slice A' (n1 + n2) c') ∧ By w' A' (n1 + n2) c' (l1 ++ l2) ∧ Ext w w' := by
  have hcat : cat [(.slice A1 n1 c1, l1), (.slice A2 n2 c2, l2)] = l1 ++ l2 := by simp [cat]
  rw [← hcat]
  refine join_by _ 2 _ w _ rfl rfl ?_ (by rw [hcat, List.length_append, h1.len, h2.len]) ?_ (by omega) hN
  · intro p hp
    simp only [List.mem_cons, List.not_mem_nil, or_false] at hp
    rcases hp with rfl | rfl
    · exact ⟨_, _, _, rfl, h1⟩
    · exact ⟨_, _, _, rfl, h2⟩
  · rw [hcat]
    intro b hb
    simp only [List.mem_append] at hb
    rcases hb with h | h
    · exact h1.rd.lt b h
    · exact h2.rd.lt b h
theorem join3_by {A1 A2 A3 : Option Addr} {n1 n2 n3 c1 c2 c3 : Nat} {l1 l2 l3 : List Nat} (w : World) (h1 : By w A1 n1 c1 l1) (h2 : By w A2 n2 c2 l2) (h3 : By w A3 n3 c3 l3) (hN : n1 + n2 + n3 ≤ 140737488355328) :
    Calls Tryz.prog 87 #[.slice (some ⟨w.heap.size, 0, none⟩) 3 3] (w.alloc (.cells #[.slice A1 n1 c1, .slice A2 n2 c2, .slice A3 n3 c3] 45)) fun e w' => ∃ A' c', e = .returned (.slice A' (n1 + n2 + n3) c') ∧ By w' A' (n1 + n2 + n3) c' (l1 ++ l2 ++ l3) ∧ Ext w w' := by
  have hcat : cat [(.slice A1 n1 c1, l1), (.slice A2 n2 c2, l2), (.slice A3 n3 c3, l3)] = l1 ++ l2 ++ l3 := by simp [cat]
  rw [← hcat]
  refine join_by _ 3 _ w _ rfl rfl ?_ (by rw [hcat, List.length_append, List.length_append, h1.len, h2.len, h3.len]) ?_ (by omega) hN
  · intro p hp
    simp only [List.mem_cons, List.not_mem_nil, or_false] at hp
    rcases hp with rfl | rfl | rfl
    · exact ⟨_, _, _, rfl, h1⟩
    · exact ⟨_, _, _, rfl, h2⟩
    · exact ⟨_, _, _, rfl, h3⟩
  · rw [hcat]
    intro b hb
    simp only [List.mem_append] at hb
    rcases hb with (h | h) | h
    · exact h1.rd.lt b h
    · exact h2.rd.lt b h
    · exact h3.rd.lt b h
end Go.Proofs.YtmacebglfniegaaGreatDoor

namespace Go.Proofs.YtmacebglfniegaaGreatDoor
set_option maxRecDepth 100000
open Go Go.RowKit

/-- What the table of bounds holds. -/
def Laid (w : World) : Prop :=
  w.cell? ⟨3, 0, none⟩ = some (.int .i64 0) ∧ w.cell? ⟨3, 1, none⟩ = some (.int .i64 256) ∧ w.cell? ⟨3, 2, none⟩ = some (.int .i64 65536) ∧ w.cell? ⟨3, 3, none⟩ = some (.int .i64 0) ∧
  w.cell? ⟨3, 4, none⟩ = some (.int .i64 4294967296) ∧ w.cell? ⟨3, 5, none⟩ = some (.int .i64 0) ∧ w.cell? ⟨3, 6, none⟩ = some (.int .i64 281474976710656)

theorem bound_any (x : Int) (w : World) (hL : Laid w) :
    Calls Tryz.prog 190 #[.int .i64 x] w fun e w' => e = .returned (.int .i64 (bnd x)) ∧ w = w' := by
  obtain ⟨h0, h1, h2, h3, h4, h5, h6⟩ := hL
  by_cases hn : x < 0
  · have hb : bnd x = 0 := by unfold bnd; omega
    have HB := Lib.hid hb
    clear hb
    go_enter Tryz.func190, Tryz.ntmps190
    go_wp2_with fail
    go_ret
    exact ⟨by rw [HB.out]; rfl, rfl⟩
  · by_cases hg : 7 ≤ x
    · have hb : bnd x = 0 := by unfold bnd; omega
      have HB := Lib.hid hb
      clear hb
      go_enter Tryz.func190, Tryz.ntmps190
      go_wp2_with fail
      go_ret
      exact ⟨by rw [HB.out]; rfl, rfl⟩
    · have hx : x = 0 ∨ x = 1 ∨ x = 2 ∨ x = 3 ∨ x = 4 ∨ x = 5 ∨ x = 6 := by omega
      clear hn hg
      rcases hx with rfl | rfl | rfl | rfl | rfl | rfl | rfl
      all_goals
        go_enter Tryz.func190, Tryz.ntmps190
        go_wp2_with fail
        go_ret
        exact ⟨rfl, rfl⟩

theorem fits_any (x n : Int) (w : World) (hL : Laid w) :
    Calls Tryz.prog 149 #[.int .i64 x, .int .i64 n] w fun e w' => e = .returned (.bool (fitsB x n)) ∧ w = w' := by
  by_cases hn : 0 ≤ n
  · have H := Lib.hid hL
    clear hL
    go_enter Tryz.func149, Tryz.ntmps149
    go_wp2_with (go_at_call 190; refine (bound_any _ _ H.out).mono ?_; rintro e w' ⟨rfl, rfl⟩)
    go_ret
    exact ⟨by simp [fitsB, hn], rfl⟩
  · have H := Lib.hid hL
    clear hL
    have HF := Lib.hid (show fitsB x n = false by simp only [fitsB, hn, decide_false, Bool.false_and])
    go_enter Tryz.func149, Tryz.ntmps149
    go_wp2_with (go_at_call 190; refine (bound_any _ _ H.out).mono ?_; rintro e w' ⟨rfl, rfl⟩)
    go_ret
    exact ⟨by rw [HF.out]; rfl, rfl⟩

end Go.Proofs.YtmacebglfniegaaGreatDoor

namespace Go.Proofs.YtmacebglfniegaaGreatDoor
set_option maxRecDepth 100000
open Go Go.RowKit

/-- What Get answers: the number, the place behind it, and which error (0: none). -/
def getS (l : List Nat) (at_ x : Int) : Nat × Nat × Int :=
  if wOk x = false ∨ at_ < 0 ∨ (l.length : Int) < at_ then (0, 0, 2)
  else if (l.length : Int) - at_ < x then (0, 0, 10)
  else (num ((l.drop at_.toNat).take x.toNat), at_.toNat + x.toNat, 0)

theorem getS_yes {l : List Nat} {at_ x : Int} (h1 : wOk x = true) (h2 : 0 ≤ at_) (h3 : at_ ≤ l.length) (h4 : x ≤ (l.length : Int) - at_) : getS l at_ x = (num ((l.drop at_.toNat).take x.toNat), at_.toNat + x.toNat, 0) := by
  unfold getS
  rw [if_neg (by rw [h1]; simp; omega), if_neg (by omega)]

end Go.Proofs.YtmacebglfniegaaGreatDoor

namespace Go.Proofs.YtmacebglfniegaaGreatDoor
set_option maxRecDepth 100000
open Go Go.RowKit

end Go.Proofs.YtmacebglfniegaaGreatDoor

namespace Go.Proofs.YtmacebglfniegaaGreatDoor
set_option maxRecDepth 100000
open Go Go.RowKit

theorem Laid.keep {w w' : World} (h : Laid w) (hk : ∀ p : Addr, p.block < w.heap.size → w'.cell? p = w.cell? p) : Laid w' := by
  have hlt : 3 < w.heap.size := World.block_lt_of_cell? w _ h.1
  unfold Laid at h ⊢
  obtain ⟨h0, h1, h2, h3, h4, h5, h6⟩ := h
  exact ⟨(hk _ hlt).trans h0, (hk _ hlt).trans h1, (hk _ hlt).trans h2, (hk _ hlt).trans h3, (hk _ hlt).trans h4, (hk _ hlt).trans h5, (hk _ hlt).trans h6⟩
theorem Laid.below {w w' : World} (h : Laid w) (hb : Below w.heap.size w w') : Laid w' := h.keep fun _ hp => hb.cell hp
theorem Laid.ext {a b : World} (h : Laid a) (k : Ext a b) : Laid b := h.below k
end Go.Proofs.YtmacebglfniegaaGreatDoor

namespace Go.Proofs.YtmacebglfniegaaGreatDoor
set_option maxRecDepth 100000
open Go Go.RowKit

theorem pad_set (k x N : Nat) (hk : k < x) : (vb (digs k N ++ List.replicate (x - k) 0)).set k (.int .u8 ((N / 256 ^ k % 256 : Nat) : Int)) = vb (digs (k + 1) N ++ List.replicate (x - (k + 1)) 0) := by
  have e : x - k = (x - (k + 1)) + 1 := by omega
  rw [digs_snoc, e, List.replicate_succ]
  simp only [vb, List.map_append, List.map_cons, List.append_assoc, List.map_nil]
  rw [List.set_append_right _ _ (by simp [digs_length])]
  simp [digs_length]

theorem shr_byte (N k : Nat) : (((N : Int) / 2 ^ (8 * k)) % 256) = ((N / 256 ^ k % 256 : Nat) : Int) := by
  have e : (2 : Nat) ^ (8 * k) = 256 ^ k := by rw [Nat.pow_mul]
  rw [← e]
  simp

set_option maxHeartbeats 800000 in
theorem oput_yes (x N : Nat) (w : World) (hL : Laid w) (hf : fitsB x N = true) :
    Calls Tryz.prog 95 #[.int .i64 x, .int .i64 N] w fun e w' => ∃ A' c', e = .returned (.tuple #[.slice A' x c', .int .i64 0]) ∧ w'.ownsRow w.heap.size 5 1 (.slice A' x c') x (vb (digs x N)) ∧ Below w.heap.size w w' := by
  obtain ⟨i0, hi, hz0, hz1, hz2⟩ := info_parts byte_info
  obtain ⟨hw, _, hN⟩ := fits_iff.1 hf
  have hx0 : 1 ≤ x ∧ x ≤ 6 := by rcases wOk_cases hw with h | h | h | h <;> omega
  have hN2 : N < 281474976710656 := by
    have h1 : 256 ^ x ≤ 256 ^ 6 := Nat.pow_le_pow_right (by omega) hx0.2
    simp only [Int.toNat_natCast] at hN
    exact Nat.lt_of_lt_of_le hN (Nat.le_trans h1 (by decide))
  have H := Lib.hid hL
  have HF := Lib.hid hf
  clear hL hf hN hw
  go_enter Tryz.func95, Tryz.ntmps95
  go_wp2_with (first
    | (go_at_call 149; refine (fits_any _ _ _ H.out).mono ?_; rintro e w' ⟨rfl, rfl⟩; rw [HF.out])
    | (at_make; refine wpList_make_full _ rfl _ _ 45 rfl w.heap.size 5 i0 (.int .u8 0) 1 Tryz.underlying45 hi hz0 hz1 .i64 .i64 _ _ x rfl rfl rfl rfl ?b1 ?b2 ?b3 ?_))
  case b1 => rw [hz2]; omega
  case b2 => unfold maxLen; omega
  case b3 => exact Nat.le_refl _
  intro w1 hown hg
  have HO : Hid (w1.ownsRow w.heap.size 5 1 (.slice (some ⟨w.heap.size, 0, none⟩) x x) x (vb (digs 0 N ++ List.replicate (x - 0) 0))) := by
    have e : (madeCells #[Value.int .u8 0] x).toList = vb (digs 0 N ++ List.replicate (x - 0) 0) := by
      rw [toList_madeCells_one]
      simp [vb, digs]
    rw [e] at hown
    exact hown
  have HB := Lib.hid ((Below.refl w.heap.size w).grown hg (Nat.le_refl _) (by simp))
  clear hown hg
  go_wp2_with fail
  go_loopw [15] (fun i wr => ∃ k : Nat, k ≤ x ∧ i = .int .i64 k ∧ Hid (wr.ownsRow w.heap.size 5 1 (.slice (some ⟨w.heap.size, 0, none⟩) x x) x (vb (digs k N ++ List.replicate (x - k) 0))) ∧ Below w.heap.size w wr) (fun i _ => x - (intOf i).toNat)
  case atStart => exact ⟨0, Nat.zero_le _, rfl, HO, HB.out⟩
  case round =>
    obtain ⟨k, hk, rfl, HOk, hbk⟩ := hrel
    have HBk := Lib.hid hbk
    clear hbk
    by_cases hlt : k < x
    · have hcell : ∃ v, wr.cell? ⟨w.heap.size, k, none⟩ = some v := by
        rw [HOk.out.cellAt k (by omega)]
        exact ⟨_, List.getElem?_eq_getElem (by rw [vb_length, List.length_append, digs_length, List.length_replicate]; omega)⟩
      obtain ⟨v0, hv0⟩ := hcell
      have hfz := HOk.out.frozenAt k
      go_wp2_with fail
      go_roundw
      case rel =>
        refine ⟨k + 1, by omega, by go_num, ?_, HBk.out.setCell (Nat.le_refl _) _⟩
        have hs := (HOk.out.stored k (.int .u8 ((N / 256 ^ k % 256 : Nat) : Int))).1
        rw [pad_set k x N hlt] at hs
        rw [← shr_byte] at hs
        exact hs
      case measure => simp [intOf]; omega
    · have HK : Hid (k = x) := Lib.hid (by omega)
      go_wp2_with fail
      go_ret2
      refine ⟨_, _, rfl, ?_, HBk.out⟩
      have := HOk.out
      rw [HK.out, Nat.sub_self, List.replicate_zero, List.append_nil] at this
      exact this

end Go.Proofs.YtmacebglfniegaaGreatDoor

namespace Go.Proofs.YtmacebglfniegaaGreatDoor
set_option maxRecDepth 100000
open Go Go.RowKit

theorem put_by (x N : Nat) (w : World) (hL : Laid w) (hf : fitsB x N = true) :
    Calls Tryz.prog 95 #[.int .i64 x, .int .i64 N] w fun e w' => ∃ A' c', e = .returned (.tuple #[.slice A' x c', .int .i64 0]) ∧ By w' A' x c' (digs x N) ∧ Ext w w' :=
  (oput_yes x N w hL hf).mono fun _ _ ⟨A', c', h1, h2, h3⟩ => ⟨A', c', h1, Bs.of_own h2 (digs_lt x N), h3⟩
end Go.Proofs.YtmacebglfniegaaGreatDoor

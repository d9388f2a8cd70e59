/-
  Plain facts on frames, without any program: a frame's bytes, which bytes are good, that all good ones have one sum.
  The contract of the document's own copy of bytes: new memory that holds the same bytes; nothing that was there is written.
  The contract of the document's own comparison of bytes: it tells whether two lists of bytes are the same, and leaves the memory as it was.
  The contracts of the document's own Copy and Same, in the words 'By' (a slice that reads as bytes) and 'Ext' (nothing that was there is written).
  Append of a slice that came in, nil or not, onto a row of the call's own.
  The contracts of the frame's small functions (Room, wholeSectors, isZero; the document's Room and blank), and of the library's Clone, Equal, Count at bytes.
-/
import Derived.Test.YtlikhmhomkiadaaDoorQ01
import Derived.Test.YtlikhmhomkiadaaDoorQ02
import Derived.Test.YtlikhmhomkiadaaDoorQ10
import Derived.Test.YtlikhmhomkiadaaDoorProg
import Derived.WalkSpells
import Derived.OwnWalk
import Derived.Laws.AppendOwnNone
import Derived.Lib.Hide
import Derived.BigQuiet
import Derived.Deep.QuietTactic
import Derived.Outline
import Derived.WalkKit
import Derived.WalkLawsBesides
import Derived.Lib.SliceRun
import Derived.Shelf.Bytes.SlCountOne
import Derived.Shelf.Bytes.SlSmallAll
namespace Go.Proofs.YtlikhmhomkiadaaDoor
set_option maxRecDepth 100000
open Go

/-- The most that a body has in so many sectors. -/
def roomN (s : Int) : Nat := if s = 1 then 43 else if s = 2 then 88 else 0
theorem roomN_one : roomN 1 = 43 := rfl
theorem roomN_two : roomN 2 = 88 := rfl
theorem roomN_no {s : Int} (h1 : s ≠ 1) (h2 : s ≠ 2) : roomN s = 0 := by unfold roomN; rw [if_neg h1, if_neg h2]
theorem roomN_le (s : Int) : roomN s ≤ 88 := by unfold roomN; (repeat' split) <;> omega
theorem roomN_pos {s : Int} (h : 0 < roomN s) : s = 1 ∨ s = 2 := by
  by_cases h1 : s = 1
  · exact .inl h1
  · by_cases h2 : s = 2
    · exact .inr h2
    · rw [roomN_no h1 h2] at h; omega

/-- What stands ahead of a frame's sum; a frame. -/
def frameH (body own : List Nat) (S : Nat) : List Nat := digs 2 body.length ++ own ++ body ++ List.replicate (64 * S - 21 - body.length) 0
def frameL (body own : List Nat) (S : Nat) : List Nat := frameH body own S ++ digs 4 (crcS (frameH body own S))
theorem frameH_lt {body own : List Nat} {S : Nat} (hb : ∀ x ∈ body, x < 256) (ho : ∀ x ∈ own, x < 256) : ∀ x ∈ frameH body own S, x < 256 := by
  intro x hx
  simp only [frameH, List.mem_append, List.mem_replicate] at hx
  rcases hx with ((h | h) | h) | ⟨_, h⟩
  · exact digs_lt _ _ x h
  · exact ho x h
  · exact hb x h
  · omega
theorem frameL_lt {body own : List Nat} {S : Nat} (hb : ∀ x ∈ body, x < 256) (ho : ∀ x ∈ own, x < 256) : ∀ x ∈ frameL body own S, x < 256 := by
  intro x hx
  rcases List.mem_append.1 hx with h | h
  · exact frameH_lt hb ho x h
  · exact digs_lt _ _ x h
theorem frameH_len {body own : List Nat} {S : Nat} (ho : own.length = 15) (hr : body.length ≤ 64 * S - 21) (hS : 1 ≤ S) : (frameH body own S).length = 64 * S - 4 := by
  simp only [frameH, List.length_append, digs_length, ho, List.length_replicate]
  omega
theorem frameL_len {body own : List Nat} {S : Nat} (ho : own.length = 15) (hr : body.length ≤ 64 * S - 21) (hS : 1 ≤ S) : (frameL body own S).length = 64 * S := by
  rw [frameL, List.length_append, frameH_len ho hr hS, digs_length]
  omega
theorem room_fits {n S : Nat} (h : n ≤ roomN (S : Int)) (hS : 0 < roomN (S : Int)) : n ≤ 64 * S - 21 ∧ 1 ≤ S ∧ S ≤ 2 := by
  rcases roomN_pos hS with h1 | h1
  · have : S = 1 := by omega
    subst this
    rw [show roomN ((1 : Nat) : Int) = 43 from rfl] at h
    omega
  · have : S = 2 := by omega
    subst this
    rw [show roomN ((2 : Nat) : Int) = 88 from rfl] at h
    omega

/-- What is read of bytes: the body's length, the tag's bytes, the body. -/
def bodyN (l : List Nat) : Nat := num (l.take 2)
def tagOf (l : List Nat) : List Nat := (l.drop 2).take 15
def bodyOf (l : List Nat) : List Nat := (l.drop 17).take (bodyN l)
def szB (l : List Nat) : Bool := decide (l.length = 64) || decide (l.length = 128)
def goodB (l : List Nat) : Bool := szB l && PV (tagOf l) && decide (bodyN l ≤ roomN ((l.length / 64 : Nat) : Int)) && decide (l = frameL (bodyOf l) (tagOf l) (l.length / 64))
def zeroB (l : List Nat) : Bool := l.all fun x => x == 0

theorem read_len {body own : List Nat} {S : Nat} (h : body.length < 65536) : bodyN (frameL body own S) = body.length := by
  have e : (frameL body own S).take 2 = digs 2 body.length := by
    simp only [frameL, frameH, List.append_assoc]
    rw [List.take_append_of_le_length (by rw [digs_length]; exact Nat.le_refl _), List.take_of_length_le (by rw [digs_length]; exact Nat.le_refl _)]
  unfold bodyN
  rw [e, num_digs 2 _ (by simpa using h)]
theorem read_tag {body own : List Nat} {S : Nat} (ho : own.length = 15) : tagOf (frameL body own S) = own := by
  unfold tagOf
  simp only [frameL, frameH, List.append_assoc]
  rw [List.drop_left' (digs_length 2 _), List.take_append_of_le_length (by omega), List.take_of_length_le (by omega)]
theorem read_body {body own : List Nat} {S : Nat} (ho : own.length = 15) (h : body.length < 65536) : bodyOf (frameL body own S) = body := by
  unfold bodyOf
  rw [read_len h]
  simp only [frameL, frameH]
  rw [List.append_assoc, List.append_assoc, List.drop_left' (by rw [List.length_append, digs_length, ho]), List.take_append_of_le_length (Nat.le_refl _), List.take_of_length_le (Nat.le_refl _)]

/-- What Seal makes is good. -/
theorem seal_good {a b c d e S : Nat} {body : List Nat} (hm : mayB a b c d e = true) (hr : body.length ≤ roomN (S : Int)) (hS : 0 < roomN (S : Int)) : goodB (frameL body (tagBytes a b c d e) S) = true := by
  have hf := room_fits hr hS
  have hlen := frameL_len (S := S) (tagBytes_len a b c d e) hf.1 hf.2.1
  have h88 := roomN_le (S : Int)
  have hdiv : 64 * S / 64 = S := by omega
  unfold goodB szB
  rw [read_tag (tagBytes_len a b c d e), read_body (tagBytes_len a b c d e) (by omega), read_len (by omega), hlen, hdiv, (PV_tag hm).1]
  simp only [decide_true, Bool.and_true, hr]
  have : S = 1 ∨ S = 2 := by omega
  rcases this with rfl | rfl <;> rfl
/-- What is good, sealed again, is those bytes. -/
theorem good_parts {l : List Nat} (h : goodB l = true) : (l.length = 64 ∨ l.length = 128) ∧ PV (tagOf l) = true ∧ bodyN l ≤ roomN ((l.length / 64 : Nat) : Int) ∧ l = frameL (bodyOf l) (tagOf l) (l.length / 64) := by
  unfold goodB szB at h
  simp only [Bool.and_eq_true, Bool.or_eq_true, decide_eq_true_eq] at h
  exact ⟨h.1.1.1, h.1.1.2, h.1.2, h.2⟩

/-- A register that is fed a number, the least byte first. -/
theorem feed_digs (k : Nat) : ∀ (r s : Nat), s < 256 ^ k → feed r (digs k s) = stps (8 * k) (r ^^^ s) := by
  induction k with
  | zero =>
    intro r s hs
    have : s = 0 := by simpa using hs
    subst this
    simp [digs, feed, stps]
  | succ k ih =>
    intro r s hs
    have h2 : s / 256 < 256 ^ k := by rw [Nat.pow_succ] at hs; omega
    rw [digs, feed, ih _ _ h2, show 8 * (k + 1) = 8 + 8 * k by omega, stps_add]
    congr 1
    unfold inb
    have e := split_xor 8 s
    rw [show (2 : Nat) ^ 8 = 256 from rfl] at e
    have e2 : r ^^^ s = (r ^^^ s % 256) ^^^ 2 ^ 8 * (s / 256) := by
      rw [show (2 : Nat) ^ 8 = 256 from rfl, Nat.xor_assoc, Nat.xor_comm (s % 256), ← e]
    rw [e2, stps_xor 8 (r ^^^ s % 256) (2 ^ 8 * (s / 256)), stps_pow]
/-- All rows that end in their own sum have one sum. -/
theorem sum_sealed {l : List Nat} (hl : ∀ b ∈ l, b < 256) : crcS (l ++ digs 4 (crcS l)) = inv (stps 32 4294967295) := by
  have hr := feed_lt (r := 4294967295) (by omega) hl
  have e0 : inv 0 = 4294967295 := rfl
  have e1 : crcS l = feed 4294967295 l ^^^ 4294967295 := by
    unfold crcS crcE
    rw [e0, inv_xor hr]
  show inv (feed (inv 0) (l ++ digs 4 (crcS l))) = _
  rw [e0, feed_append, feed_digs 4 _ _ (by have := crcE_lt 0 l; show crcE 0 l < 256 ^ 4; omega), e1, ← Nat.xor_assoc, Nat.xor_self, Nat.zero_xor]
theorem good_sum {l : List Nat} (h : goodB l = true) (hl : ∀ b ∈ l, b < 256) : crcS l = inv (stps 32 4294967295) := by
  obtain ⟨_, _, _, hf⟩ := good_parts h
  have hb : ∀ x ∈ bodyOf l, x < 256 := fun x hx => hl x (List.mem_of_mem_drop (List.mem_of_mem_take hx))
  have ho : ∀ x ∈ tagOf l, x < 256 := fun x hx => hl x (List.mem_of_mem_drop (List.mem_of_mem_take hx))
  rw [hf]
  exact sum_sealed (frameH_lt hb ho)
theorem good_same {l m : List Nat} (h : goodB l = true) (hm : goodB m = true) (hl : ∀ b ∈ l, b < 256) (hml : ∀ b ∈ m, b < 256) : crcS l = crcS m := (good_sum h hl).trans (good_sum hm hml).symm
theorem zero_PV {l : List Nat} (h : zeroB l = true) (hl : 17 ≤ l.length) : PV (tagOf l) = false := by
  have hz : ∀ x ∈ l, x = 0 := by
    intro x hx
    have := List.all_eq_true.1 h x hx
    simpa using this
  have hlen : (tagOf l).length = 15 := by unfold tagOf; rw [List.length_take, List.length_drop]; omega
  have hrep : tagOf l = List.replicate 15 0 := by
    refine List.eq_replicate_iff.2 ⟨hlen, fun x hx => hz x (List.mem_of_mem_drop (List.mem_of_mem_take hx))⟩
  rw [hrep]
  decide
theorem good_not_zero {l : List Nat} (h : goodB l = true) : zeroB l = false := by
  obtain ⟨hs, hp, _, _⟩ := good_parts h
  by_cases hz : zeroB l = true
  · have := zero_PV hz (by omega)
    rw [this] at hp
    cases hp
  · simpa using hz
end Go.Proofs.YtlikhmhomkiadaaDoor

namespace Go.Proofs.YtlikhmhomkiadaaDoor
set_option maxRecDepth 100000
open Go Go.RowKit

theorem byte_info : (Tryd.prog.info? 5).map (fun i => (i.zero, i.size, i.bytes)) = some (some (.int .u8 0), 1, 1) := by kernel_rfl

set_option maxHeartbeats 400000 in
theorem copy_any (A : Option Addr) (l : List Nat) (n c B : Nat) (w : World) (hl : l.length = n) (hr : Rd w B A l) (hnil : A = none → c = 0) (hm : n ≤ 140737488355328) :
    Calls Tryd.prog 7 #[.slice A n c] w fun e w' => ∃ A' c', e = .returned (.slice A' n c') ∧ n ≤ c' ∧ c' ≤ 9223372036854775807 ∧ w'.ownsRow w.heap.size 5 1 (.slice A' n c') n (vb l) ∧ Below w.heap.size w w' := by
  obtain ⟨i0, hi, hz0, hz1, hz2⟩ := info_parts byte_info
  have HL := Lib.hid hl
  clear hl
  have fin : ∀ (v' : Value) (w1 : World), w1.ownsRow w.heap.size 5 1 v' n (vb l) → w.grownBy w1 none → ∃ A' c', Ending.returned v' = .returned (.slice A' n c') ∧ n ≤ c' ∧ c' ≤ 9223372036854775807 ∧ w1.ownsRow w.heap.size 5 1 (.slice A' n c') n (vb l) ∧ Below w.heap.size w w1 := by
    intro v' w1 hown hg
    obtain ⟨A', c', rfl, h1, h2⟩ := own_form hown
    exact ⟨A', c', rfl, h1, h2, hown, (Below.refl _ _).grown hg (Nat.le_refl _) (by simp)⟩
  have HFIN := Lib.hid fin
  clear fin
  rcases A with _ | ad
  · have hn0 : n = 0 := by
      rcases Nat.eq_zero_or_pos n with h | h
      · exact h
      · obtain ⟨g, o, hA, _⟩ := hr.2 (by rw [HL.out]; exact h)
        cases hA
    subst hn0
    obtain rfl := hnil rfl
    clear hnil
    have hl0 : l = [] := List.eq_nil_of_length_eq_zero HL.out
    subst hl0
    go_enter Tryd.func7, Tryd.ntmps7
    go_wp2_with (at_builtin; refine wpList_append_own_none rfl _ _ 26 rfl w.heap.size 5 i0 1 Tryd.underlying26 hi _ 0 [] rfl (World.ownsRow_nil _ _ _ _) rfl ?_)
    go_ret
    exact HFIN.out _ _ (World.ownsRow_nil _ _ _ _) (World.grownBy.refl _ _)
  · clear hnil
    go_enter Tryd.func7, Tryd.ntmps7
    go_wp2_with (at_builtin; refine wpList_append_own _ rfl _ _ 26 rfl w.heap.size 5 i0 (.int .u8 0) 1 1 Tryd.underlying26 hi hz0 hz1 hz2 rfl (by decide) _ 0 [] rfl (World.ownsRow_nil _ _ _ _) ad n c (vb l) rfl ?c1 ?c2 ?c3 ?c4 ?c5 ?c6 ?_)
    case c1 => rw [vb_length, HL.out]; omega
    case c2 =>
      intro j u hj
      rw [vb_get] at hj
      obtain ⟨x, hx, rfl⟩ := Option.map_eq_some_iff.1 hj
      have hjl : j < l.length := (List.getElem?_eq_some_iff.1 hx).1
      obtain ⟨g, o, y, hA, _, hy, _, hc⟩ := hr.at_ hjl
      injection hA with hA
      subst hA
      rw [hx] at hy
      injection hy with hy
      subst hy
      rw [Addr.add_lit, hc]
    case c3 => exact vb_one l
    case c4 => unfold maxLen; omega
    case c5 => omega
    case c6 => exact Nat.le_refl _
    intro v' w1 hown hg _
    have HO := Lib.hid hown
    have HG := Lib.hid hg
    clear hown hg
    go_wp2_with fail
    go_ret
    exact HFIN.out _ _ HO.out HG.out
end Go.Proofs.YtlikhmhomkiadaaDoor

namespace Go.Proofs.YtlikhmhomkiadaaDoor
set_option maxRecDepth 100000
open Go Go.RowKit

set_option maxHeartbeats 400000 in
theorem same_any (A A' : Option Addr) (l l' : List Nat) (n n' c c' B : Nat) (w : World) (hl : l.length = n) (hl' : l'.length = n') (hr : Rd w B A l) (hr' : Rd w B A' l') (hm : n ≤ maxLen) :
    Calls Tryd.prog 14 #[.slice A n c, .slice A' n' c'] w fun e w' => e = .returned (.bool (decide (l = l'))) ∧ ∃ k, w' = w.drewN k := by
  unfold maxLen at hm
  by_cases hne : n = n'
  · subst hne
    have HL := Lib.hid hl
    have HL' := Lib.hid hl'
    clear hl hl'
    go_enter Tryd.func14, Tryd.ntmps14
    go_wp2_with fail
    go_loopw [5] (fun i wr => ∃ k : Nat, k ≤ n ∧ i = .int .i64 k ∧ (∃ j, wr = w.drewN j) ∧ l.take k = l'.take k) (fun i _ => n - (intOf i).toNat)
    case atStart => exact ⟨0, Nat.zero_le _, rfl, ⟨0, rfl⟩, rfl⟩
    case round =>
      obtain ⟨k, hk, rfl, ⟨j, rfl⟩, htk⟩ := hrel
      have HT := Lib.hid htk
      clear htk
      by_cases hlt : k < n
      · obtain ⟨g, o, x, hA, _, hx, hx2, hcx⟩ := hr.at_ (k := k) (by rw [HL.out]; exact hlt)
        obtain ⟨g', o', y, hA', _, hy, hy2, hcy⟩ := hr'.at_ (k := k) (by rw [HL'.out]; exact hlt)
        subst hA; subst hA'
        have HX := Lib.hid hx
        have HY := Lib.hid hy
        clear hx hy
        by_cases hxy : x = y
        · subst hxy
          have hb : (((x : Nat) : Int) != ((x : Nat) : Int)) = false := by simp
          go_wp2_with fail
          go_quiet (fail)
          go_wp2_with fail
          go_roundw
          case rel => exact ⟨k + 1, by omega, by go_num, ⟨_, rfl⟩, take_step HT.out HX.out HY.out⟩
          case measure => simp [intOf]; omega
        · have hb : (((x : Nat) : Int) != ((y : Nat) : Int)) = true := by rw [bne_iff_ne]; omega
          have HF := Lib.hid (ne_of_get HX.out HY.out hxy)
          clear hxy
          go_wp2_with fail
          go_quiet (fail)
          go_wp2_with fail
          go_ret
          exact ⟨by rw [HF.out]; rfl, _, drewN_add _ _ _⟩
      · have HF : Hid (decide (l = l') = true) := by
          apply Lib.hid
          have := HT.out
          rw [List.take_of_length_le (by have := HL.out; omega), List.take_of_length_le (by have := HL'.out; omega)] at this
          simpa using this
        go_wp2_with fail
        go_ret
        exact ⟨by rw [HF.out]; rfl, _, rfl⟩
  · have HF := Lib.hid (show decide (l = l') = false by
      simp only [decide_eq_false_iff_not]
      rintro rfl
      exact hne (hl.symm.trans hl'))
    have hb : (((n : Nat) : Int) != ((n' : Nat) : Int)) = true := by rw [bne_iff_ne]; omega
    clear hne hl hl'
    go_enter Tryd.func14, Tryd.ntmps14
    go_wp2_with fail
    go_ret
    exact ⟨by rw [HF.out]; rfl, 0, rfl⟩
end Go.Proofs.YtlikhmhomkiadaaDoor

namespace Go.Proofs.YtlikhmhomkiadaaDoor
set_option maxRecDepth 100000
open Go Go.RowKit

theorem same_by (A A' : Option Addr) (l l' : List Nat) (n n' c c' : Nat) (w : World) (hb : By w A n c l) (hb' : By w A' n' c' l') :
    Calls Tryd.prog 14 #[.slice A n c, .slice A' n' c'] w fun e w' => e = .returned (.bool (decide (l = l'))) ∧ Ext w w' :=
  (same_any A A' l l' n n' c c' _ w hb.len hb'.len hb.rd hb'.rd (by have := hb.cap; have := hb.most; unfold maxLen; omega)).mono fun _ _ ⟨h, k, hk⟩ => ⟨h, by subst hk; exact (Ext.refl _).drewN k⟩

theorem copy_by (A : Option Addr) (l : List Nat) (n c : Nat) (w : World) (hb : By w A n c l) (hm : n ≤ 140737488355328) :
    Calls Tryd.prog 7 #[.slice A n c] w fun e w' => ∃ A' c', e = .returned (.slice A' n c') ∧ By w' A' n c' l ∧ Ext w w' ∧ w'.ownsRow w.heap.size 5 1 (.slice A' n c') n (vb l) :=
  (copy_any A l n c _ w hb.len hb.rd (Bs.nil_ hb) hm).mono fun _ _ ⟨A', c', h1, _, _, h4, h5⟩ => ⟨A', c', h1, Bs.of_own h4 hb.rd.lt, h5, h4⟩
/-- A literal of bytes that the call has just made out of a constant text. -/
theorem By.litm (w : World) (l : List Nat) (t : TypeId) (fr : Nat × Nat) (hb : ∀ b ∈ l, b < 256) (hm : l.length ≤ 9223372036854775807) (cs : Array Value) (hcs : cs = (vb l).toArray) : By (w.alloc (.cells cs t fr)) (some ⟨w.heap.size, 0, none⟩) l.length l.length l := by
  subst hcs
  exact By.of_row (heap_alloc_new w _) (fun j x hx => vb_at hx) hb rfl (Nat.le_refl _) hm
/-- The second of two literals of bytes that the call has just made. -/
theorem By.lit2 (w : World) (o : Obj) (l : List Nat) (t : TypeId) (hb : ∀ b ∈ l, b < 256) (hm : l.length ≤ 9223372036854775807) (cs : Array Value) (hcs : cs = (vb l).toArray) : By ((w.alloc o).alloc (.cells cs t)) (some ⟨w.heap.size + 1, 0, none⟩) l.length l.length l := by
  rw [show w.heap.size + 1 = (w.alloc o).heap.size from by simp]
  exact By.lit _ l t hb hm cs hcs
end Go.Proofs.YtlikhmhomkiadaaDoor

namespace Go.Proofs.YtlikhmhomkiadaaDoor
set_option maxRecDepth 100000
open Go Go.RowKit

theorem wpList_append_by {P : Program} {w : World} {ops : Array Oper} {rest : List Oper} {o : Oper} {a : Act} {Q : Exit → Act → World → Prop} (hgd : o.guard = none) (s x : Operand) (t : TypeId)
    (ho : o.op = .call { callee := .builtin .append, args := #[s, x], argTypes := #[t, t] })
    (base : Nat) (e : TypeId) (i : TypeInfo) (ht : P.underlying t = some (.slice e)) (hi : P.info? e = some i) (hz : i.zero = some (.int .u8 0))
    (hsize : i.size = 1) (hby : i.bytes = 1)
    (v : Value) (n : Nat) (xs : List Value) (hs : a.eval s = v) (hown : w.ownsRow base e 1 v n xs)
    (A : Option Addr) (m c : Nat) (l : List Nat) (hx : a.eval x = .slice A m c) (hb : By w A m c l)
    (hbytes : n + m ≤ 140737488355328) (hbase : base ≤ w.heap.size)
    (h : ∀ v' w', w'.ownsRow base e 1 v' (n + m) (xs ++ vb l) → w.grownBy w' v.ownBlock → wpList P ops Q rest (a.put o.dst v') w') : wpList P ops Q (o :: rest) a w := by
  cases A with
  | none =>
    obtain rfl := Bs.nil_ hb rfl
    have hm : m = 0 := by have := hb.cap; omega
    subst hm
    have hl : l = [] := List.eq_nil_of_length_eq_zero hb.len
    subst hl
    refine wpList_append_own_none hgd s x t ho base e i 1 ht hi v n xs hs hown hx ?_
    exact h v w (by simpa [vb] using hown) (World.grownBy.refl _ _)
  | some ad =>
    refine wpList_append_own w hgd s x t ho base e i (.int .u8 0) 1 1 ht hi hz hsize hby rfl (by decide) v n xs hs hown ad m c (vb l) hx (by rw [vb_length, hb.len]; omega) ?_ (vb_one l) (by unfold maxLen; omega) (by omega) hbase fun v' w' h1 h2 _ => h v' w' h1 h2
    intro j u hj
    rw [vb_get] at hj
    obtain ⟨y, hy, rfl⟩ := Option.map_eq_some_iff.1 hj
    have hjl : j < l.length := (List.getElem?_eq_some_iff.1 hy).1
    obtain ⟨g, o', z, hA, _, hz', _, hc⟩ := hb.rd.at_ hjl
    injection hA with hA
    subst hA
    rw [hy] at hz'
    injection hz' with hz'
    subst hz'
    rw [Addr.add_lit, hc]
/-- Behind an append onto a row that the call has made since w0. -/
theorem app_step {w0 w1 w2 : World} {v v2 : Value} {e n m : Nat} {xs : List Value} {l1 l2 : List Nat} (hx : Ext w0 w1) (hown : w1.ownsRow w0.heap.size e 1 v n xs) (hg : w1.grownBy w2 v.ownBlock)
    (h2 : w2.ownsRow w0.heap.size e 1 v2 m (vb l1 ++ vb l2)) (hb1 : ∀ b ∈ l1, b < 256) (hb2 : ∀ b ∈ l2, b < 256) :
    Ext w0 w2 ∧ ∃ A c, v2 = .slice A m c ∧ By w2 A m c (l1 ++ l2) ∧ w2.ownsRow w0.heap.size e 1 (.slice A m c) m (vb (l1 ++ l2)) := by
  refine ⟨Below.grown hx hg (Ext.size hx) (fun g hg' => (hown.lt g hg').1), ?_⟩
  obtain ⟨A, c, rfl, _, _⟩ := own_form h2
  rw [← vb_append] at h2
  exact ⟨A, c, rfl, Bs.of_own h2 (by intro b hb; rcases List.mem_append.1 hb with h | h; exact hb1 b h; exact hb2 b h), h2⟩
end Go.Proofs.YtlikhmhomkiadaaDoor

namespace Go.Proofs.YtlikhmhomkiadaaDoor
set_option maxRecDepth 100000
open Go Go.RowKit

theorem room_any (s : Int) (w : World) :
    Calls Tryd.prog 54 #[.int .i64 s] w fun e w' => e = .returned (.int .i64 (roomN s)) ∧ w = w' := by
  by_cases h1 : s = 1
  · subst h1
    go_enter Tryd.func54, Tryd.ntmps54
    go_wp2_with fail
    go_ret
    exact ⟨rfl, rfl⟩
  · by_cases h2 : s = 2
    · subst h2
      go_enter Tryd.func54, Tryd.ntmps54
      go_wp2_with fail
      go_ret
      exact ⟨rfl, rfl⟩
    · have g1 : (s != 1) = true := by simp; omega
      have g2 : (s != 2) = true := by simp; omega
      have HF := Lib.hid (roomN_no h1 h2)
      clear h1 h2
      go_enter Tryd.func54, Tryd.ntmps54
      go_wp2_with fail
      go_ret
      exact ⟨by rw [HF.out]; rfl, rfl⟩

/-- How many sectors so many bytes fill, or 0. -/
def wsN (n : Nat) : Nat := if n % 64 = 0 then n / 64 else 0
theorem whole_any (A : Option Addr) (n c : Nat) (w : World) (hn : n ≤ 9223372036854775807) :
    Calls Tryd.prog 84 #[.slice A n c] w fun e w' => e = .returned (.int .i64 (wsN n : Nat)) ∧ w = w' := by
  by_cases h : n % 64 = 0
  · have HF : Hid (wsN n = n / 64) := Lib.hid (by unfold wsN; rw [if_pos h])
    go_enter Tryd.func84, Tryd.ntmps84
    go_wp2_with fail
    go_ret
    exact ⟨by rw [HF.out]; rfl, rfl⟩
  · have HF : Hid (wsN n = 0) := Lib.hid (by unfold wsN; rw [if_neg h])
    go_enter Tryd.func84, Tryd.ntmps84
    go_wp2_with fail
    go_ret
    exact ⟨by rw [HF.out]; rfl, rfl⟩

theorem zero_take_step {l : List Nat} {k : Nat} (h : zeroB (l.take k) = true) (hx : l[k]? = some 0) : zeroB (l.take (k + 1)) = true := by
  unfold zeroB at h ⊢
  rw [List.take_add_one, hx]
  simp only [Option.toList_some, List.all_append, h, Bool.true_and]
  rfl
theorem zero_not {l : List Nat} {k x : Nat} (hx : l[k]? = some x) (h : x ≠ 0) : zeroB l = false := by
  unfold zeroB
  rw [List.all_eq_false]
  exact ⟨x, List.mem_of_getElem? hx, by simpa using h⟩
end Go.Proofs.YtlikhmhomkiadaaDoor

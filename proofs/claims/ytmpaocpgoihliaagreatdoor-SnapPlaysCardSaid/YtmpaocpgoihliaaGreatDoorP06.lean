/-
  Plain facts on frames, without any program: a frame's bytes, which bytes are good, that all good ones have one sum.
-/
import Derived.Test.YtmpaocpgoihliaaGreatDoorP00
import Derived.Test.YtmpaocpgoihliaaGreatDoorP01
import Derived.Test.YtmpaocpgoihliaaGreatDoorP05
import Derived.Test.YtmpaocpgoihliaaGreatDoorProg
import Derived.WalkSpells
import Derived.OwnWalk
import Derived.Laws.AppendOwnNone
import Derived.Lib.Hide
import Derived.BigQuiet
import Derived.Deep.QuietTactic
import Derived.Outline
import Derived.WalkKit
import Derived.WalkLawsBesides
import Derived.Lib.SliceRun
import Derived.Shelf.Bytes.SlCountOne
import Derived.Shelf.Bytes.SlSmallAll
import Derived.Deep.RegionHeld3
import Derived.Laws.Tables
import Derived.Laws.CopyOwn
import Derived.IntWalk
namespace Go.Proofs.YtmpaocpgoihliaaGreatDoor
set_option maxRecDepth 100000
section
open Go
def roomN (s : Int) : Nat := if s = 1 then 43 else if s = 2 then 88 else 0
theorem roomN_one : roomN 1 = 43 := rfl
theorem roomN_two : roomN 2 = 88 := rfl
theorem roomN_no {s : Int} (h1 : s ≠ 1) (h2 : s ≠ 2) : roomN s = 0 := by unfold roomN; rw [if_neg h1, if_neg h2]
theorem roomN_le (s : Int) : roomN s ≤ 88 := by unfold roomN; (repeat' split) <;> omega
theorem roomN_pos {s : Int} (h : 0 < roomN s) : s = 1 ∨ s = 2 := by
 by_cases h1 : s = 1
 ·exact .inl h1
 ·by_cases h2 : s = 2
  ·exact .inr h2
  ·rw [roomN_no h1 h2] at h; omega
def frameH (body own : List Nat) (S : Nat) : List Nat := digs 2 body.length ++ own ++ body ++ List.replicate (64 * S - 21 - body.length) 0
def frameL (body own : List Nat) (S : Nat) : List Nat := frameH body own S ++ digs 4 (crcS (frameH body own S))
theorem frameH_lt {body own : List Nat} {S : Nat} (hb : ∀ x ∈ body, x < 256) (ho : ∀ x ∈ own, x < 256) : ∀ x ∈ frameH body own S, x < 256 := by
 intro x hx
 simp only [frameH, List.mem_append, List.mem_replicate] at hx
 rcases hx with ((h | h) | h) | ⟨_, h⟩
 ·exact digs_lt _ _ x h
 ·exact ho x h
 ·exact hb x h
 ·omega
theorem frameH_len {body own : List Nat} {S : Nat} (ho : own.length = 15) (hr : body.length ≤ 64 * S - 21) (hS : 1 ≤ S) : (frameH body own S).length = 64 * S - 4 := by
 simp only [frameH, List.length_append, digs_length, ho, List.length_replicate]
 omega
theorem frameL_len {body own : List Nat} {S : Nat} (ho : own.length = 15) (hr : body.length ≤ 64 * S - 21) (hS : 1 ≤ S) : (frameL body own S).length = 64 * S := by
 rw [frameL, List.length_append, frameH_len ho hr hS, digs_length]
 omega
theorem room_fits {n S : Nat} (h : n ≤ roomN (S : Int)) (hS : 0 < roomN (S : Int)) : n ≤ 64 * S - 21 ∧ 1 ≤ S ∧ S ≤ 2 := by
 rcases roomN_pos hS with h1 | h1
 ·have : S = 1 := by omega
  subst this
  rw [show roomN ((1 : Nat) : Int) = 43 from rfl] at h
  omega
 ·have : S = 2 := by omega
  subst this
  rw [show roomN ((2 : Nat) : Int) = 88 from rfl] at h
  omega
def bodyN (l : List Nat) : Nat := num (l.take 2)
def tagOf (l : List Nat) : List Nat := (l.drop 2).take 15
def bodyOf (l : List Nat) : List Nat := (l.drop 17).take (bodyN l)
def szB (l : List Nat) : Bool := decide (l.length = 64) || decide (l.length = 128)
def goodB (l : List Nat) : Bool := szB l && PV (tagOf l) && decide (bodyN l ≤ roomN ((l.length / 64 : Nat) : Int)) && decide (l = frameL (bodyOf l) (tagOf l) (l.length / 64))
def zeroB (l : List Nat) : Bool := l.all fun x => x == 0
theorem good_parts {l : List Nat} (h : goodB l = true) : (l.length = 64 ∨ l.length = 128) ∧ PV (tagOf l) = true ∧ bodyN l ≤ roomN ((l.length / 64 : Nat) : Int) ∧ l = frameL (bodyOf l) (tagOf l) (l.length / 64) := by
 unfold goodB szB at h
 simp only [Bool.and_eq_true, Bool.or_eq_true, decide_eq_true_eq] at h
 exact ⟨h.1.1.1, h.1.1.2, h.1.2, h.2⟩
theorem zero_PV {l : List Nat} (h : zeroB l = true) (hl : 17 ≤ l.length) : PV (tagOf l) = false := by
 have hz : ∀ x ∈ l, x = 0 := by
  intro x hx
  have := List.all_eq_true.1 h x hx
  simpa using this
 have hlen : (tagOf l).length = 15 := by unfold tagOf; rw [List.length_take, List.length_drop]; omega
 have hrep : tagOf l = List.replicate 15 0 := by
  refine List.eq_replicate_iff.2 ⟨hlen, fun x hx => hz x (List.mem_of_mem_drop (List.mem_of_mem_take hx))⟩
 rw [hrep]
 decide
theorem good_not_zero {l : List Nat} (h : goodB l = true) : zeroB l = false := by
 obtain ⟨hs, hp, _, _⟩ := good_parts h
 by_cases hz : zeroB l = true
 ·have := zero_PV hz (by omega)
  rw [this] at hp
  cases hp
 ·simpa using hz
end
section
open Go Go.RowKit
theorem byte_info : (Tryz.prog.info? 5).map (fun i => (i.zero, i.size, i.bytes)) = some (some (.int .u8 0), 1, 1) := by kernel_rfl
set_option maxHeartbeats 400000 in
theorem copy_any (A : Option Addr) (l : List Nat) (n c B : Nat) (w : World) (hl : l.length = n) (hr : Rd w B A l) (hnil : A = none → c = 0) (hm : n ≤ 140737488355328) :
 Calls Tryz.prog 25 #[.slice A n c] w fun e w' => ∃ A' c', e = .returned (.slice A' n c') ∧ n ≤ c' ∧ c' ≤ 9223372036854775807 ∧ w'.ownsRow w.heap.size 5 1 (.slice A' n c') n (vb l) ∧ Below w.heap.size w w' := by
 obtain ⟨i0, hi, hz0, hz1, hz2⟩ := info_parts byte_info
 have HL := Lib.hid hl
 clear hl
 have fin : ∀ (v' : Value) (w1 : World), w1.ownsRow w.heap.size 5 1 v' n (vb l) → w.grownBy w1 none → ∃ A' c', Ending.returned v' = .returned (.slice A' n c') ∧ n ≤ c' ∧ c' ≤ 9223372036854775807 ∧ w1.ownsRow w.heap.size 5 1 (.slice A' n c') n (vb l) ∧ Below w.heap.size w w1 := by
  intro v' w1 hown hg
  obtain ⟨A', c', rfl, h1, h2⟩ := own_form hown
  exact ⟨A', c', rfl, h1, h2, hown, (Below.refl _ _).grown hg (Nat.le_refl _) (by simp)⟩
 have HFIN := Lib.hid fin
 clear fin
 rcases A with _ | ad
 ·have hn0 : n = 0 := by
   rcases Nat.eq_zero_or_pos n with h | h
   ·exact h
   ·obtain ⟨g, o, hA, _⟩ := hr.2 (by rw [HL.out]; exact h)
    cases hA
  subst hn0
  obtain rfl := hnil rfl
  clear hnil
  have hl0 : l = [] := List.eq_nil_of_length_eq_zero HL.out
  subst hl0
  go_enter Tryz.func25, Tryz.ntmps25
  go_wp2_with (at_builtin; refine wpList_append_own_none rfl _ _ 45 rfl w.heap.size 5 i0 1 Tryz.underlying45 hi _ 0 [] rfl (World.ownsRow_nil _ _ _ _) rfl ?_)
  go_ret
  exact HFIN.out _ _ (World.ownsRow_nil _ _ _ _) (World.grownBy.refl _ _)
 ·clear hnil
  go_enter Tryz.func25, Tryz.ntmps25
  go_wp2_with (at_builtin; refine wpList_append_own _ rfl _ _ 45 rfl w.heap.size 5 i0 (.int .u8 0) 1 1 Tryz.underlying45 hi hz0 hz1 hz2 rfl (by decide) _ 0 [] rfl (World.ownsRow_nil _ _ _ _) ad n c (vb l) rfl ?c1 ?c2 ?c3 ?c4 ?c5 ?c6 ?_)
  case c1 => rw [vb_length, HL.out]; omega
  case c2 =>
   intro j u hj
   rw [vb_get] at hj
   obtain ⟨x, hx, rfl⟩ := Option.map_eq_some_iff.1 hj
   have hjl : j < l.length := (List.getElem?_eq_some_iff.1 hx).1
   obtain ⟨g, o, y, hA, _, hy, _, hc⟩ := hr.at_ hjl
   injection hA with hA
   subst hA
   rw [hx] at hy
   injection hy with hy
   subst hy
   rw [Addr.add_lit, hc]
  case c3 => exact vb_one l
  case c4 => unfold maxLen; omega
  case c5 => omega
  case c6 => exact Nat.le_refl _
  intro v' w1 hown hg _
  have HO := Lib.hid hown
  have HG := Lib.hid hg
  clear hown hg
  go_wp2_with fail
  go_ret
  exact HFIN.out _ _ HO.out HG.out
end
section
open Go Go.RowKit
set_option maxHeartbeats 400000 in
theorem same_any (A A' : Option Addr) (l l' : List Nat) (n n' c c' B : Nat) (w : World) (hl : l.length = n) (hl' : l'.length = n') (hr : Rd w B A l) (hr' : Rd w B A' l') (hm : n ≤ maxLen) :
 Calls Tryz.prog 30 #[.slice A n c, .slice A' n' c'] w fun e w' => e = .returned (.bool (decide (l = l'))) ∧ ∃ k, w' = w.drewN k := by
 unfold maxLen at hm
 by_cases hne : n = n'
 ·subst hne
  have HL := Lib.hid hl
  have HL' := Lib.hid hl'
  clear hl hl'
  go_enter Tryz.func30, Tryz.ntmps30
  go_wp2_with fail
  go_loopw [5] (fun i wr => ∃ k : Nat, k ≤ n ∧ i = .int .i64 k ∧ (∃ j, wr = w.drewN j) ∧ l.take k = l'.take k) (fun i _ => n - (intOf i).toNat)
  case atStart => exact ⟨0, Nat.zero_le _, rfl, ⟨0, rfl⟩, rfl⟩
  case round =>
   obtain ⟨k, hk, rfl, ⟨j, rfl⟩, htk⟩ := hrel
   have HT := Lib.hid htk
   clear htk
   by_cases hlt : k < n
   ·obtain ⟨g, o, x, hA, _, hx, hx2, hcx⟩ := hr.at_ (k := k) (by rw [HL.out]; exact hlt)
    obtain ⟨g', o', y, hA', _, hy, hy2, hcy⟩ := hr'.at_ (k := k) (by rw [HL'.out]; exact hlt)
    subst hA; subst hA'
    have HX := Lib.hid hx
    have HY := Lib.hid hy
    clear hx hy
    by_cases hxy : x = y
    ·subst hxy
     have hb : (((x : Nat) : Int) != ((x : Nat) : Int)) = false := by simp
     go_wp2_with fail
     go_quiet (fail)
     go_wp2_with fail
     go_roundw
     case rel => exact ⟨k + 1, by omega, by go_num, ⟨_, rfl⟩, take_step HT.out HX.out HY.out⟩
     case measure => simp [intOf]; omega
    ·have hb : (((x : Nat) : Int) != ((y : Nat) : Int)) = true := by rw [bne_iff_ne]; omega
     have HF := Lib.hid (ne_of_get HX.out HY.out hxy)
     clear hxy
     go_wp2_with fail
     go_quiet (fail)
     go_wp2_with fail
     go_ret
     exact ⟨by rw [HF.out]; rfl, _, drewN_add _ _ _⟩
   ·have HF : Hid (decide (l = l') = true) := by
     apply Lib.hid
     have := HT.out
     rw [List.take_of_length_le (by have := HL.out; omega), List.take_of_length_le (by have := HL'.out; omega)] at this
     simpa using this
    go_wp2_with fail
    go_ret
    exact ⟨by rw [HF.out]; rfl, _, rfl⟩
 ·have HF := Lib.hid (show decide (l = l') = false by
   simp only [decide_eq_false_iff_not]
   rintro rfl
   exact hne (hl.symm.trans hl'))
  have hb : (((n : Nat) : Int) != ((n' : Nat) : Int)) = true := by rw [bne_iff_ne]; omega
  clear hne hl hl'
  go_enter Tryz.func30, Tryz.ntmps30
  go_wp2_with fail
  go_ret
  exact ⟨by rw [HF.out]; rfl, 0, rfl⟩
end
section
open Go Go.RowKit
theorem same_by (A A' : Option Addr) (l l' : List Nat) (n n' c c' : Nat) (w : World) (hb : By w A n c l) (hb' : By w A' n' c' l') :
 Calls Tryz.prog 30 #[.slice A n c, .slice A' n' c'] w fun e w' => e = .returned (.bool (decide (l = l'))) ∧ Ext w w' :=
 (same_any A A' l l' n n' c c' _ w hb.len hb'.len hb.rd hb'.rd (by have := hb.cap; have := hb.most; unfold maxLen; omega)).mono fun _ _ ⟨h, k, hk⟩ => ⟨h, by subst hk; exact (Ext.refl _).drewN k⟩
theorem copy_by (A : Option Addr) (l : List Nat) (n c : Nat) (w : World) (hb : By w A n c l) (hm : n ≤ 140737488355328) :
 Calls Tryz.prog 25 #[.slice A n c] w fun e w' => ∃ A' c', e = .returned (.slice A' n c') ∧ By w' A' n c' l ∧ Ext w w' ∧ w'.ownsRow w.heap.size 5 1 (.slice A' n c') n (vb l) :=
 (copy_any A l n c _ w hb.len hb.rd (Bs.nil_ hb) hm).mono fun _ _ ⟨A', c', h1, _, _, h4, h5⟩ => ⟨A', c', h1, Bs.of_own h4 hb.rd.lt, h5, h4⟩
end
section
open Go Go.RowKit
theorem wpList_append_by {P : Program} {w : World} {ops : Array Oper} {rest : List Oper} {o : Oper} {a : Act} {Q : Exit → Act → World → Prop} (hgd : o.guard = none) (s x : Operand) (t : TypeId)
 (ho : o.op = .call { callee := .builtin .append, args := #[s, x], argTypes := #[t, t] })
 (base : Nat) (e : TypeId) (i : TypeInfo) (ht : P.underlying t = some (.slice e)) (hi : P.info? e = some i) (hz : i.zero = some (.int .u8 0))
 (hsize : i.size = 1) (hby : i.bytes = 1)
 (v : Value) (n : Nat) (xs : List Value) (hs : a.eval s = v) (hown : w.ownsRow base e 1 v n xs)
 (A : Option Addr) (m c : Nat) (l : List Nat) (hx : a.eval x = .slice A m c) (hb : By w A m c l)
 (hbytes : n + m ≤ 140737488355328) (hbase : base ≤ w.heap.size)
 (h : ∀ v' w', w'.ownsRow base e 1 v' (n + m) (xs ++ vb l) → w.grownBy w' v.ownBlock → wpList P ops Q rest (a.put o.dst v') w') : wpList P ops Q (o :: rest) a w := by
 cases A with
 | none =>
  obtain rfl := Bs.nil_ hb rfl
  have hm : m = 0 := by have := hb.cap; omega
  subst hm
  have hl : l = [] := List.eq_nil_of_length_eq_zero hb.len
  subst hl
  refine wpList_append_own_none hgd s x t ho base e i 1 ht hi v n xs hs hown hx ?_
  exact h v w (by simpa [vb] using hown) (World.grownBy.refl _ _)
 | some ad =>
  refine wpList_append_own w hgd s x t ho base e i (.int .u8 0) 1 1 ht hi hz hsize hby rfl (by decide) v n xs hs hown ad m c (vb l) hx (by rw [vb_length, hb.len]; omega) ?_ (vb_one l) (by unfold maxLen; omega) (by omega) hbase fun v' w' h1 h2 _ => h v' w' h1 h2
  intro j u hj
  rw [vb_get] at hj
  obtain ⟨y, hy, rfl⟩ := Option.map_eq_some_iff.1 hj
  have hjl : j < l.length := (List.getElem?_eq_some_iff.1 hy).1
  obtain ⟨g, o', z, hA, _, hz', _, hc⟩ := hb.rd.at_ hjl
  injection hA with hA
  subst hA
  rw [hy] at hz'
  injection hz' with hz'
  subst hz'
  rw [Addr.add_lit, hc]
theorem app_step {w0 w1 w2 : World} {v v2 : Value} {e n m : Nat} {xs : List Value} {l1 l2 : List Nat} (hx : Ext w0 w1) (hown : w1.ownsRow w0.heap.size e 1 v n xs) (hg : w1.grownBy w2 v.ownBlock)
 (h2 : w2.ownsRow w0.heap.size e 1 v2 m (vb l1 ++ vb l2)) (hb1 : ∀ b ∈ l1, b < 256) (hb2 : ∀ b ∈ l2, b < 256) :
 Ext w0 w2 ∧ ∃ A c, v2 = .slice A m c ∧ By w2 A m c (l1 ++ l2) ∧ w2.ownsRow w0.heap.size e 1 (.slice A m c) m (vb (l1 ++ l2)) := by
 refine ⟨Below.grown hx hg (Ext.size hx) (fun g hg' => (hown.lt g hg').1), ?_⟩
 obtain ⟨A, c, rfl, _, _⟩ := own_form h2
 rw [← vb_append] at h2
 exact ⟨A, c, rfl, Bs.of_own h2 (by intro b hb; rcases List.mem_append.1 hb with h | h; exact hb1 b h; exact hb2 b h), h2⟩
end
section
open Go Go.RowKit
theorem room_any (s : Int) (w : World) :
 Calls Tryz.prog 168 #[.int .i64 s] w fun e w' => e = .returned (.int .i64 (roomN s)) ∧ w = w' := by
 by_cases h1 : s = 1
 ·subst h1
  go_enter Tryz.func168, Tryz.ntmps168
  go_wp2_with fail
  go_ret
  exact ⟨rfl, rfl⟩
 ·by_cases h2 : s = 2
  ·subst h2
   go_enter Tryz.func168, Tryz.ntmps168
   go_wp2_with fail
   go_ret
   exact ⟨rfl, rfl⟩
  ·have g1 : (s != 1) = true := by simp; omega
   have g2 : (s != 2) = true := by simp; omega
   have HF := Lib.hid (roomN_no h1 h2)
   clear h1 h2
   go_enter Tryz.func168, Tryz.ntmps168
   go_wp2_with fail
   go_ret
   exact ⟨by rw [HF.out]; rfl, rfl⟩
theorem rroom_any (s : Int) (w : World) :
 Calls Tryz.prog 135 #[.int .i64 s] w fun e w' => e = .returned (.int .i64 (roomN s)) ∧ w = w' := by
 by_cases h1 : s = 1
 ·subst h1
  go_enter Tryz.func135, Tryz.ntmps135
  go_wp2_with fail
  go_ret
  exact ⟨rfl, rfl⟩
 ·by_cases h2 : s = 2
  ·subst h2
   go_enter Tryz.func135, Tryz.ntmps135
   go_wp2_with fail
   go_ret
   exact ⟨rfl, rfl⟩
  ·have g1 : (s == 1) = false := by simp; omega
   have g2 : (s == 2) = false := by simp; omega
   have HF := Lib.hid (roomN_no h1 h2)
   clear h1 h2
   go_enter Tryz.func135, Tryz.ntmps135
   go_wp2_with fail
   go_ret
   exact ⟨by rw [HF.out]; rfl, rfl⟩
def wsN (n : Nat) : Nat := if n % 64 = 0 then n / 64 else 0
theorem whole_any (A : Option Addr) (n c : Nat) (w : World) (hn : n ≤ 9223372036854775807) :
 Calls Tryz.prog 264 #[.slice A n c] w fun e w' => e = .returned (.int .i64 (wsN n : Nat)) ∧ w = w' := by
 by_cases h : n % 64 = 0
 ·have HF : Hid (wsN n = n / 64) := Lib.hid (by unfold wsN; rw [if_pos h])
  go_enter Tryz.func264, Tryz.ntmps264
  go_wp2_with fail
  go_ret
  exact ⟨by rw [HF.out]; rfl, rfl⟩
 ·have HF : Hid (wsN n = 0) := Lib.hid (by unfold wsN; rw [if_neg h])
  go_enter Tryz.func264, Tryz.ntmps264
  go_wp2_with fail
  go_ret
  exact ⟨by rw [HF.out]; rfl, rfl⟩
theorem zero_take_step {l : List Nat} {k : Nat} (h : zeroB (l.take k) = true) (hx : l[k]? = some 0) : zeroB (l.take (k + 1)) = true := by
 unfold zeroB at h ⊢
 rw [List.take_add_one, hx]
 simp only [Option.toList_some, List.all_append, h, Bool.true_and]
 rfl
theorem zero_not {l : List Nat} {k x : Nat} (hx : l[k]? = some x) (h : x ≠ 0) : zeroB l = false := by
 unfold zeroB
 rw [List.all_eq_false]
 exact ⟨x, List.mem_of_getElem? hx, by simpa using h⟩
theorem blank_any (A : Option Addr) (n c : Nat) (l : List Nat) (w : World) (hb : By w A n c l) :
 Calls Tryz.prog 249 #[.slice A n c] w fun e w' => e = .returned (.bool (zeroB l)) ∧ w = w' := by
 have hn : n ≤ 9223372036854775807 := Nat.le_trans (Bs.cap hb) (Bs.most hb)
 have HB := Lib.hid hb
 clear hb
 go_enter Tryz.func249, Tryz.ntmps249
 go_wp2_with fail
 go_loop [3] (fun i => ∃ k : Nat, k ≤ n ∧ i = .int .i64 k ∧ Hid (zeroB (l.take k) = true)) (fun i => n - (intOf i).toNat)
 case atStart => exact ⟨0, Nat.zero_le _, rfl, Lib.hid rfl⟩
 case round =>
  obtain ⟨k, hk, rfl, HZ⟩ := hrel
  by_cases hlt : k < n
  ·obtain ⟨g, o, x, hA, _, hx, hx2, hcx⟩ := HB.out.rd.at_ (k := k) (by rw [HB.out.len]; exact hlt)
   subst hA
   by_cases h0 : x = 0
   ·subst h0
    have HZ2 := Lib.hid (zero_take_step HZ.out hx)
    clear hx
    go_wp2_with fail
    go_round
    case rel => exact ⟨k + 1, by omega, by go_num, HZ2⟩
    case measure => simp [intOf]; omega
   ·have HF := Lib.hid (zero_not hx h0)
    have hb0 : ((x : Int) != 0) = true := by simp; omega
    clear hx h0
    go_wp2_with fail
    go_ret
    exact ⟨by rw [HF.out]; rfl, rfl⟩
  ·have HF : Hid (zeroB l = true) := by
    have := HZ.out
    rw [List.take_of_length_le (by have := HB.out.len; omega)] at this
    exact Lib.hid this
   go_wp2_with fail
   go_ret
   exact ⟨by rw [HF.out]; rfl, rfl⟩
end
section
open Go Go.RowKit Go.Lib
theorem By.cells {w : World} {A : Option Addr} {n c : Nat} {l : List Nat} (h : By w A n c l) {ad : Addr} (hA : A = some ad) : ∀ i, i < n → w.cell? (ad.add i) = some (.int .u8 ((l.map fun (b : Nat) => (b : Int)).getD i 0)) := by
 intro i hi
 obtain ⟨g, o, x, hA2, _, hx, _, hc⟩ := h.rd.at_ (k := i) (by rw [h.len]; exact hi)
 rw [hA] at hA2
 injection hA2 with hA2
 subst hA2
 rw [Addr.add_lit, hc]
 have e : (l.map fun (b : Nat) => (b : Int)).getD i 0 = (x : Int) := by
  rw [List.getD_eq_getElem?_getD, List.getElem?_map, hx]
  rfl
 rw [e]
theorem bytesOf_inj {l l' : List Nat} (hl : ∀ b ∈ l, b < 256) (hl' : ∀ b ∈ l', b < 256) (h : bytesOf (l.map fun (b : Nat) => (b : Int)) = bytesOf (l'.map fun (b : Nat) => (b : Int))) : l = l' := by
 unfold bytesOf at h
 rw [List.map_map, List.map_map] at h
 have hlen : l.length = l'.length := by
  have := congrArg List.length h
  simpa using this
 refine List.ext_getElem hlen fun i h1 h2 => ?_
 have e := congrArg (fun z => z[i]?) h
 simp only [List.getElem?_map, List.getElem?_eq_getElem h1, List.getElem?_eq_getElem h2, Option.map_some, Option.some.injEq, Function.comp, Int.toNat_natCast] at e
 have b1 := hl _ (List.getElem_mem h1)
 have b2 := hl' _ (List.getElem_mem h2)
 have e2 := congrArg UInt8.toNat e
 simp only [UInt8.toNat_ofNat'] at e2
 omega
theorem count_zero {l : List Nat} (hl : ∀ b ∈ l, b < 256) : (((countByte (bytesOf (l.map fun (b : Nat) => (b : Int))) (Int.toNat 0).toUInt8 : Nat) : Int) == (l.length : Int)) = zeroB l := by
 have e : countByte (bytesOf (l.map fun (b : Nat) => (b : Int))) (Int.toNat 0).toUInt8 = l.countP (fun x => x == 0) := by
  unfold countByte bytesOf
  rw [List.count, List.map_map, List.countP_map]
  refine List.countP_congr fun x hx => ?_
  have hb := hl x hx
  simp only [Function.comp, Int.toNat_natCast, beq_iff_eq]
  constructor
  ·intro h
   have := congrArg UInt8.toNat h
   simp at this
   omega
  ·rintro rfl
   rfl
 rw [e]
 by_cases h : zeroB l = true
 ·have : l.countP (fun x => x == 0) = l.length := by
   rw [List.countP_eq_length]
   exact fun a ha => List.all_eq_true.1 h a ha
  rw [this, h]
  simp
 ·have h' : zeroB l = false := by simpa using h
  rw [h']
  have : l.countP (fun x => x == 0) ≠ l.length := by
   rw [Ne, List.countP_eq_length]
   intro hh
   exact h (List.all_eq_true.2 hh)
  simp
  omega
theorem conv_by {w : World} {A : Option Addr} {n c : Nat} {l : List Nat} (h : By w A n c l) : (convert 45 9 (.slice A n c)).run Tryz.prog w = .ok (.string (strOfNums (l.map fun (b : Nat) => (b : Int)))) w := by
 by_cases hn : n = 0
 ·subst hn
  have hl0 : l = [] := List.eq_nil_of_length_eq_zero h.len
  subst hl0
  exact run_convert_bytes_zero w 45 5 Tryz.underlying45 Tryz.underlying5 A c _ Tryz.underlying9
 ·obtain ⟨g, o, x, hA, _⟩ := h.rd.at_ (k := 0) (by rw [h.len]; omega)
  subst hA
  exact run_convert_bytes_arg (P := Tryz.prog) w 45 5 Tryz.underlying45 Tryz.underlying5 g o n c (l.map fun (b : Nat) => (b : Int)) (by rw [List.length_map, h.len]) (fun i hi => by have := h.cells rfl i hi; rwa [Addr.add_lit] at this) _ Tryz.underlying9
theorem equal_by (A A' : Option Addr) (l l' : List Nat) (n n' c c' : Nat) (w : World) (hb : By w A n c l) (hb' : By w A' n' c' l') :
 Calls Tryz.prog 214 #[.slice A n c, .slice A' n' c'] w fun e w' => e = .returned (.bool (decide (l = l'))) ∧ w = w' := by
 have h1 := conv_by hb
 have h2 := conv_by hb'
 have HF : Hid (decide (l = l') = ((strOfNums (l.map fun (b : Nat) => (b : Int))).toList == (strOfNums (l'.map fun (b : Nat) => (b : Int))).toList)) := by
  refine Lib.hid ?_
  rw [strOfNums_toList, strOfNums_toList]
  by_cases h : l = l'
  ·subst h; simp
  ·rw [decide_eq_false h]
   symm
   rw [beq_eq_false_iff_ne]
   exact fun hh => h (bytesOf_inj hb.rd.lt hb'.rd.lt hh)
 clear hb hb'
 go_enter Tryz.func214, Tryz.ntmps214
 go_wp2_with fail
 go_ret
 exact ⟨by rw [HF.out]; rfl, rfl⟩
theorem own_made (w : World) : (w.alloc (.cells #[] 5)).ownsRow w.heap.size 5 1 (.slice (some ⟨w.heap.size, 0, none⟩) 0 0) 0 (vb []) := World.ownsRow_made w #[] 0 (Nat.le_refl _) (Nat.zero_le _) rfl
theorem clone_by (A : Option Addr) (l : List Nat) (n c : Nat) (w : World) (hb : By w A n c l) (hm : n ≤ 140737488355328) :
 Calls Tryz.prog 267 #[.slice A n c] w fun e w' => ∃ A' c', e = .returned (.slice A' n c') ∧ By w' A' n c' l ∧ Ext w w' ∧ w'.ownsRow w.heap.size 5 1 (.slice A' n c') n (vb l) := by
 obtain ⟨i0, hi, hz0, hz1, hz2⟩ := info_parts byte_info
 have q22 : ∀ (w : World) (a : Option Addr) (n c n' c' : Nat), (binOp .eql 45 (.slice a n c) (.slice none n' c')).run Tryz.prog w = .ok (.bool a.isNone) w := fun w a n c n' c' => Lib.run_eql_slice_nil w _ _ a n c n' c' Tryz.underlying45
 have HB := Lib.hid hb
 cases A with
 | none =>
  obtain rfl := Bs.nil_ hb rfl
  have hn : n = 0 := by have := Bs.cap hb; omega
  subst hn
  have hl0 : l = [] := List.eq_nil_of_length_eq_zero (Bs.len hb)
  subst hl0
  clear hb
  go_enter Tryz.func267, Tryz.ntmps267
  go_wp2_with fail
  go_ret
  exact ⟨none, 0, rfl, By.nil_ _, Ext.refl _, World.ownsRow_nil _ _ _ _⟩
 | some ad =>
  have HX := Lib.hid ((Ext.refl w).alloc (.cells #[] 5))
  have HO := Lib.hid (own_made w)
  clear hb
  go_enter Tryz.func267, Tryz.ntmps267
  go_wp2_with (at_builtin; refine wpList_append_by rfl _ _ 45 rfl w.heap.size 5 i0 Tryz.underlying45 hi hz0 hz1 hz2 _ 0 (vb []) rfl HO.out (some ad) n c l rfl (HB.out.ext HX.out) (by omega) (Ext.size HX.out) ?_)
  intro v2 w2 hown hg
  obtain ⟨hx, A2, c2, rfl, hb2, ho2⟩ := app_step (l1 := []) HX.out HO.out hg hown (by simp) HB.out.rd.lt
  have HX2 := Lib.hid hx
  have HB2 := Lib.hid hb2
  have HO2 := Lib.hid ho2
  clear hx hb2 ho2 hown hg
  go_wp2_with fail
  go_ret
  exact ⟨A2, c2, rfl, HB2.out, HX2.out, HO2.out⟩
set_option maxRecDepth 1000000 in
theorem count_by (A : Option Addr) (l : List Nat) (n c g o d : Nat) (w : World) (hb : By w A n c l) (hc : w.cell? ⟨g, o, none⟩ = some (.int .u8 0)) :
 Calls Tryz.prog 270 #[.slice A n c, .slice (some ⟨g, o, none⟩) 1 d] w fun e w' => e = .returned (.int .i64 ((countByte (bytesOf (l.map fun (b : Nat) => (b : Int))) (Int.toNat 0).toUInt8 : Nat) : Int)) ∧ w = w' := by
 have HB := Lib.hid hb
 clear hb
 cases A with
 | none =>
  obtain rfl := Bs.nil_ HB.out rfl
  have hn : n = 0 := by have := Bs.cap HB.out; omega
  subst hn
  have hl0 : l = [] := List.eq_nil_of_length_eq_zero (Bs.len HB.out)
  subst hl0
  go_enter Tryz.func270, Tryz.ntmps270
  go_wp2_with fail
  rw [run_callFunc_extern Tryz.func274 (by kernel_rfl) (by kernel_rfl) (by kernel_rfl) (e := Extern.BytealgCount.count) (by kernel_rfl), Lib.run_countNil w 0 0 0]
  simp only [Result.andThen]
  rw [Oper.upon_value]
  go_wp2_with fail
  go_ret
  exact ⟨rfl, rfl⟩
 | some ad =>
  have hcells := HB.out.cells rfl
  have HC := Lib.hid (Lib.run_countAt (P := Tryz.prog) w ad n c (l.map fun (b : Nat) => (b : Int)) (by rw [List.length_map, HB.out.len]) hcells 0)
  clear hcells
  go_enter Tryz.func270, Tryz.ntmps270
  go_wp2_with fail
  rw [run_callFunc_extern Tryz.func274 (by kernel_rfl) (by kernel_rfl) (by kernel_rfl) (e := Extern.BytealgCount.count) (by kernel_rfl), HC.out]
  simp only [Result.andThen]
  rw [Oper.upon_value]
  go_wp2_with fail
  go_ret
  exact ⟨rfl, rfl⟩
theorem isZero_any (A : Option Addr) (n c : Nat) (l : List Nat) (w : World) (hb : By w A n c l) :
 Calls Tryz.prog 265 #[.slice A n c] w fun e w' => e = .returned (.bool (zeroB l)) ∧ Ext w w' := by
 have HX := Lib.hid ((Ext.refl w).alloc (.cells #[.int .u8 0] 5))
 have HC : Hid ((w.alloc (.cells #[.int .u8 0] 5)).cell? ⟨w.heap.size, 0, none⟩ = some (.int .u8 0)) := Lib.hid (cell_of_row _ w.heap.size 0 _ 5 (0, 0) (heap_alloc_new w _))
 have HN : Hid (l.length = n) := Lib.hid (Bs.len hb)
 have HF := Lib.hid (count_zero (Bs.rd hb).lt)
 have HB := Lib.hid hb
 clear hb
 go_enter Tryz.func265, Tryz.ntmps265
 go_wp2_with fail
 refine (count_by A l n c w.heap.size 0 1 _ (HB.out.ext HX.out) HC.out).mono ?_
 rintro e w' ⟨rfl, rfl⟩
 generalize countByte (bytesOf (l.map fun (b : Nat) => (b : Int))) (Int.toNat 0).toUInt8 = k at *
 go_wp2_with fail
 go_ret
 exact ⟨by rw [← HF.out, HN.out]; rfl, HX.out⟩
end
section
open Go Go.RowKit
def LaidT (w : World) : Prop := ∀ r : Nat, r < 6 → w.cell? ⟨2, r * 2, none⟩ = some (.int .i64 (plc r)) ∧ w.cell? ⟨2, r * 2 + 1, none⟩ = some (.int .i64 (wid r))
theorem LaidT.ext {a b : World} (h : LaidT a) (k : Ext a b) : LaidT b := by
 have hlt : 2 < a.heap.size := World.block_lt_of_cell? a _ (h 0 (by omega)).1
 exact fun r hr => ⟨(Below.cell k (p := ⟨_, _, none⟩) hlt).trans (h r hr).1, (Below.cell k (p := ⟨_, _, none⟩) hlt).trans (h r hr).2⟩
theorem within_any (a n b : Int) (w : World) :
 Calls Tryz.prog 244 #[.int .i64 a, .int .i64 n, .int .i64 b] w fun e w' => e = .returned (.int .i64 (max a (min n b))) ∧ w = w' := by
 have fin : ∀ x y : Int, x = y → Ending.returned (Value.int .i64 x) = .returned (.int .i64 y) := fun x y h => by rw [h]
 go_enter Tryz.func244, Tryz.ntmps244
 go_wp2
 all_goals (go_ret; refine ⟨fin _ _ ?_, rfl⟩; omega)
theorem find_case (r : Int) (k p q : Nat) (w : World) (hr : r = k) (hk : k < 6) (hp : p = plc r) (hq : q = wid r) (h0 : w.cell? ⟨2, k * 2, none⟩ = some (.int .i64 p)) (h1 : w.cell? ⟨2, k * 2 + 1, none⟩ = some (.int .i64 q)) :
 Calls Tryz.prog 180 #[.int .i64 r] w fun e w' => e = .returned (.agg #[.int .i64 p, .int .i64 q]) ∧ Ext w w' := by
 subst hr
 have HP := Lib.hid hp
 have HQ := Lib.hid hq
 have hb := World.block_lt_of_cell? w _ h0
 have g0 := (Below.cell ((Ext.refl w).alloc (.cells #[.int .i64 0, .int .i64 0] 246)) hb).trans h0
 have g1 := (Below.cell ((Ext.refl w).alloc (.cells #[.int .i64 0, .int .i64 0] 246)) (p := ⟨2, k * 2 + 1, none⟩) hb).trans h1
 clear hb h0 h1 hp hq
 go_enter Tryz.func180, Tryz.ntmps180
 go_wp2
 exact bodyPost_ret (v := .agg #[.int .i64 p, .int .i64 q]) (by simp [results, Tryz.results180, go_sem]) rfl ⟨rfl, (Ext.refl w).alloc _⟩
set_option maxHeartbeats 800000 in
theorem find_any (r : Int) (w : World) (hL : LaidT w) :
 Calls Tryz.prog 180 #[.int .i64 r] w fun e w' => e = .returned (.agg #[.int .i64 (plc r), .int .i64 (wid r)]) ∧ Ext w w' := by
 by_cases hn : r < 0
 ·have H1 := Lib.hid (plc_out (r := r) (.inl (by omega)))
  have H2 := Lib.hid (wid_out (r := r) (.inl (by omega)))
  go_enter Tryz.func180, Tryz.ntmps180
  go_wp2
  exact bodyPost_ret (v := .agg #[.int .i64 0, .int .i64 0]) (by simp [results, Tryz.results180, go_sem]) rfl ⟨by rw [H1.out, H2.out]; rfl, (Ext.refl w).alloc _⟩
 by_cases hg : 6 ≤ r
 ·have H1 := Lib.hid (plc_out (r := r) (.inr (by omega)))
  have H2 := Lib.hid (wid_out (r := r) (.inr (by omega)))
  go_enter Tryz.func180, Tryz.ntmps180
  go_wp2
  exact bodyPost_ret (v := .agg #[.int .i64 0, .int .i64 0]) (by simp [results, Tryz.results180, go_sem]) rfl ⟨by rw [H1.out, H2.out]; rfl, (Ext.refl w).alloc _⟩
 obtain ⟨r, rfl⟩ := Int.eq_ofNat_of_zero_le (show 0 ≤ r by omega)
 exact find_case r r _ _ w rfl (by omega) rfl rfl (hL r (by omega)).1 (hL r (by omega)).2
theorem area_field0 (x y : Value) (w : World) : (Instr.field 246 (.agg #[x, y]) 0).run Tryz.prog w = .ok x w := by kernel_rfl
theorem area_field1 (x y : Value) (w : World) : (Instr.field 246 (.agg #[x, y]) 1).run Tryz.prog w = .ok y w := by kernel_rfl
theorem places_any (r : Int) (w : World) (hL : LaidT w) :
 Calls Tryz.prog 139 #[.int .i64 r] w fun e w' => e = .returned (.int .i64 (plc r)) ∧ Ext w w' := by
 have HL := Lib.hid hL
 have hf := area_field0
 clear hL
 go_enter Tryz.func139, Tryz.ntmps139
 go_wp2_with fail
 refine (find_any r _ HL.out).mono ?_
 rintro e w1 ⟨rfl, hx⟩
 have HX := Lib.hid hx
 clear hx
 go_wp2_with fail
 go_ret
 exact ⟨rfl, HX.out⟩
end
section
open Go Go.RowKit
def NearS (w : World) (g : Nat) (a b c d e : Int) (w' : World) : Prop :=
 w'.cell? ⟨g, 0, none⟩ = some (.int .i64 a) ∧ w'.cell? ⟨g, 1, none⟩ = some (.int .i64 b) ∧ w'.cell? ⟨g, 2, none⟩ = some (.int .i64 c) ∧ w'.cell? ⟨g, 3, none⟩ = some (.int .i64 d) ∧ w'.cell? ⟨g, 4, none⟩ = some (.int .i64 e) ∧
  Hid (LaidT w' ∧ Ext w w' ∧ w.heap.size ≤ g ∧ 2 < g ∧ ∃ X : Array Value, X.size = 5 ∧ w'.heap[g + 1]? = some (.cells X 44 (0, 0)))
theorem NearS.ext {w w' w1 : World} {g : Nat} {a b c d e : Int} (h : NearS w g a b c d e w') (k : Ext w' w1) : NearS w g a b c d e w1 := by
 obtain ⟨h0, h1, h2, h3, h4, ⟨hL, hE, hg, hg2, X, hX, hh⟩⟩ := h
 have hlt : g < w'.heap.size := by have := World.block_lt_of_cell? w' _ h0; simpa using this
 exact ⟨(Below.cell k (p := ⟨g, 0, none⟩) hlt).trans h0, (Below.cell k (p := ⟨g, 1, none⟩) hlt).trans h1, (Below.cell k (p := ⟨g, 2, none⟩) hlt).trans h2, (Below.cell k (p := ⟨g, 3, none⟩) hlt).trans h3, (Below.cell k (p := ⟨g, 4, none⟩) hlt).trans h4,
  ⟨hL.ext k, hE.trans k, hg, hg2, X, hX, (k.block (g + 1) (Array.getElem?_eq_some_iff.1 hh).1).trans hh⟩⟩
theorem NearS.drew {w w' : World} {g : Nat} {a b c d e : Int} (h : NearS w g a b c d e w') : NearS w g a b c d e w'.drew := h.ext ((Ext.refl w').drew)
theorem NearS.laid {w w' : World} {g : Nat} {a b c d e : Int} (h : NearS w g a b c d e w') : LaidT w' := h.2.2.2.2.2.out.1
theorem NearS.row {w w' : World} {g : Nat} {a b c d e : Int} (h : NearS w g a b c d e w') : ∃ X : Array Value, X.size = 5 ∧ w'.heap[g + 1]? = some (.cells X 44 (0, 0)) := h.2.2.2.2.2.out.2.2.2.2
theorem NearS.kept {w w' : World} {g : Nat} {a b c d e : Int} (h : NearS w g a b c d e w') : Ext w w' := h.2.2.2.2.2.out.2.1
theorem NearS.free {w w' : World} {g : Nat} {a b c d e : Int} (h : NearS w g a b c d e w') (i : Nat) (hi : i < 5) : (∃ v, w'.cell? ⟨g + 1, i, none⟩ = some v) ∧ w'.frozen? ⟨g + 1, i, none⟩ = false := by
 obtain ⟨X, hX, hh⟩ := h.row
 refine ⟨⟨X[i], ?_⟩, ?_⟩
 ·rw [cell_of_row w' (g + 1) i X _ _ hh, Array.getElem?_eq_getElem (by omega)]
 ·exact frozen_of_row w' (g + 1) i X _ hh
theorem NearS.all {w w' : World} {g : Nat} {a b c d e : Int} (h : NearS w g a b c d e w') : (w'.cell? ⟨g, 0, none⟩ = some (.int .i64 a) ∧ w'.cell? ⟨g, 1, none⟩ = some (.int .i64 b) ∧ w'.cell? ⟨g, 2, none⟩ = some (.int .i64 c) ∧ w'.cell? ⟨g, 3, none⟩ = some (.int .i64 d) ∧ w'.cell? ⟨g, 4, none⟩ = some (.int .i64 e)) ∧
 ∃ x0 x1 x2 x3 x4, w'.cell? ⟨g + 1, 0, none⟩ = some x0 ∧ w'.cell? ⟨g + 1, 1, none⟩ = some x1 ∧ w'.cell? ⟨g + 1, 2, none⟩ = some x2 ∧ w'.cell? ⟨g + 1, 3, none⟩ = some x3 ∧ w'.cell? ⟨g + 1, 4, none⟩ = some x4 ∧
  w'.frozen? ⟨g + 1, 0, none⟩ = false ∧ w'.frozen? ⟨g + 1, 1, none⟩ = false ∧ w'.frozen? ⟨g + 1, 2, none⟩ = false ∧ w'.frozen? ⟨g + 1, 3, none⟩ = false ∧ w'.frozen? ⟨g + 1, 4, none⟩ = false := by
 obtain ⟨⟨x0, c0⟩, f0⟩ := h.free 0 (by omega)
 obtain ⟨⟨x1, c1⟩, f1⟩ := h.free 1 (by omega)
 obtain ⟨⟨x2, c2⟩, f2⟩ := h.free 2 (by omega)
 obtain ⟨⟨x3, c3⟩, f3⟩ := h.free 3 (by omega)
 obtain ⟨⟨x4, c4⟩, f4⟩ := h.free 4 (by omega)
 exact ⟨⟨h.1, h.2.1, h.2.2.1, h.2.2.2.1, h.2.2.2.2.1⟩, x0, x1, x2, x3, x4, c0, c1, c2, c3, c4, f0, f1, f2, f3, f4⟩
theorem near_start (w : World) (hL : LaidT w) (a b c d e : Int) (Y : Array Value) (hY : Y.size = 5) : NearS w w.heap.size a b c d e ((w.alloc (.cells #[.int .i64 a, .int .i64 b, .int .i64 c, .int .i64 d, .int .i64 e] 44)).alloc (.cells Y 44)) := by
 have hE := ((Ext.refl w).alloc (.cells #[.int .i64 a, .int .i64 b, .int .i64 c, .int .i64 d, .int .i64 e] 44))
 have hE2 := (Ext.refl (w.alloc (.cells #[.int .i64 a, .int .i64 b, .int .i64 c, .int .i64 d, .int .i64 e] 44))).alloc (.cells Y 44)
 have hc := fun i => (Below.cell hE2 (p := ⟨w.heap.size, i, none⟩) (by simp)).trans (cell_of_row _ w.heap.size i _ 44 (0, 0) (heap_alloc_new w _))
 have hlt : 2 < w.heap.size := World.block_lt_of_cell? w _ (hL 0 (by omega)).1
 exact ⟨hc 0, hc 1, hc 2, hc 3, hc 4, ⟨hL.ext (hE.trans hE2), hE.trans hE2, Nat.le_refl _, hlt, Y, hY, heap_alloc2_new w _ _⟩⟩
set_option maxHeartbeats 6400000 in
theorem nearest_any (a b c d e : Int) (w : World) (hL : LaidT w) :
 Calls Tryz.prog 208 #[.agg #[.int .i64 a, .int .i64 b, .int .i64 c, .int .i64 d, .int .i64 e]] w fun r w' => r = .returned (.agg #[.int .i64 (nrA a), .int .i64 (nrR b), .int .i64 (nrC b c), .int .i64 (nrD d), .int .i64 (nrE e)]) ∧ Ext w w' := by
 have HS := Lib.hid (near_start w hL a b c d e #[.int .i64 0, .int .i64 0, .int .i64 0, .int .i64 0, .int .i64 0] rfl)
 clear hL
 go_enter Tryz.func208, Tryz.ntmps208
 go_wp2_with fail
 refine (within_any _ _ _ _).mono ?_
 rintro e' w' ⟨rfl, rfl⟩
 go_wp2_with fail
 have hplc := plc_le (nrR b)
 have hsub : IntKind.i64.wrap ((plc (nrR b) : Int) - 1) = (plc (nrR b) : Int) - 1 := IntWalk.i64_in _ (by omega)
 clear hplc
 rw [show max 1 (min b 5) = nrR b from rfl]
 generalize ((w.alloc (.cells #[.int .i64 a, .int .i64 b, .int .i64 c, .int .i64 d, .int .i64 e] 44)).alloc (.cells #[.int .i64 0, .int .i64 0, .int .i64 0, .int .i64 0, .int .i64 0] 44)) = W at *
 have hS := HS.out.drew
 clear HS
 generalize w.heap.size = g at *
 have hS' := hS
 obtain ⟨i0, i1, i2, i3, i4, _⟩ := hS'
 go_region_held3 (fun w' => w'.cell? ⟨g, 0, none⟩ = some (.int .i64 a) ∧ w'.cell? ⟨g, 1, none⟩ = some (.int .i64 b) ∧ w'.cell? ⟨g, 2, none⟩ = some (.int .i64 c) ∧ w'.cell? ⟨g, 3, none⟩ = some (.int .i64 d) ∧ w'.cell? ⟨g, 4, none⟩ = some (.int .i64 e))
  (first | with_reducible exact ⟨i0, i1, i2, i3, i4⟩ | with_reducible exact ⟨j0, j1, j2, j3, j4⟩ | go_keep)
  (first
   | (go_at_call 244; ((with_reducible refine (within_any _ _ _ _).mono ?_); rintro e' w' ⟨rfl, rfl⟩))
   | (go_at_call 139; ((with_reducible refine (places_any _ _ hS.laid).mono ?_); rintro e' w' ⟨rfl, hx⟩; obtain ⟨⟨j0, j1, j2, j3, j4⟩, x0, x1, x2, x3, x4, c0, c1, c2, c3, c4, f0, f1, f2, f3, f4⟩ := NearS.all (NearS.ext hS hx))))
 have HE := Lib.hid (hS.kept.trans hx)
 have HG := Lib.hid hS.2.2.2.2.2.out.2.2.1
 clear hS i0 i1 i2 i3 i4 hx hsub j0 j1 j2 j3 j4
 go_wp2_with fail
 refine bodyPost_ret (v := .agg #[.int .i64 (nrA a), .int .i64 (nrR b), .int .i64 (nrC b c), .int .i64 (nrD d), .int .i64 (nrE e)]) ?_ rfl ⟨rfl, ?_⟩
 ·simp [results, Tryz.results208, go_sem, c0, c1, c2, c3, c4]
  exact ⟨rfl, rfl, rfl, rfl⟩
 ·have hg : w.heap.size ≤ g + 1 := Nat.le_succ_of_le HG.out
  exact ((((HE.out.setCell (p := ⟨g + 1, 0, none⟩) hg _).setCell (p := ⟨g + 1, 1, none⟩) hg _).setCell (p := ⟨g + 1, 2, none⟩) hg _).setCell (p := ⟨g + 1, 3, none⟩) hg _).setCell (p := ⟨g + 1, 4, none⟩) hg _
theorem tag_eql (a b c d e a' b' c' d' e' : Int) (w : World) : (binOp .eql 44 (.agg #[.int .i64 a, .int .i64 b, .int .i64 c, .int .i64 d, .int .i64 e]) (.agg #[.int .i64 a', .int .i64 b', .int .i64 c', .int .i64 d', .int .i64 e'])).run Tryz.prog w =
 .ok (.bool (a == a' && (b == b' && (c == c' && (d == d' && e == e'))))) w := by
 have hf : Tryz.prog.stoodInHeld 44 = false := by kernel_rfl
 have hu := Tryz.underlying44
 rw [run_eql_struct, run_equalIn_agg _ _ _ _ _ (by rw [Program.fieldsOf, hu]) hf, Program.fieldsOf, hu]
 simp [Op.eqFields, go_sem]
 by_cases h1 : a = a' <;> by_cases h2 : b = b' <;> by_cases h3 : c = c' <;> by_cases h4 : d = d' <;> by_cases h5 : e = e' <;> simp [h1, h2, h3, h4, h5]
end
section
open Go Go.RowKit
theorem may_eq (a b c d e : Int) : (a == nrA a && (b == nrR b && (c == nrC b c && (d == nrD d && e == nrE e)))) = mayB a b c d e := by
 rw [Bool.eq_iff_iff, ← near_iff]
 simp
theorem Ext.cell {a b : World} {p : Addr} {v : Value} (k : Ext a b) (h : a.cell? p = some v) : b.cell? p = some v := (Below.cell k (World.block_lt_of_cell? a _ h)).trans h
set_option maxHeartbeats 3200000 in
theorem may_any (a b c d e : Int) (w : World) (hL : LaidT w) :
 Calls Tryz.prog 137 #[.agg #[.int .i64 a, .int .i64 b, .int .i64 c, .int .i64 d, .int .i64 e]] w fun r w' => r = .returned (.bool (mayB a b c d e)) ∧ Ext w w' := by
 have hE := (Ext.refl w).alloc (.cells #[.int .i64 a, .int .i64 b, .int .i64 c, .int .i64 d, .int .i64 e] 44)
 have hL1 := hL.ext hE
 have hc := fun i => (cell_of_row _ w.heap.size i _ 44 (0, 0) (heap_alloc_new w (.cells #[.int .i64 a, .int .i64 b, .int .i64 c, .int .i64 d, .int .i64 e] 44)))
 have i0 : (w.alloc (.cells #[.int .i64 a, .int .i64 b, .int .i64 c, .int .i64 d, .int .i64 e] 44)).cell? ⟨w.heap.size, 0, none⟩ = some (.int .i64 a) := hc 0
 have i1 : (w.alloc (.cells #[.int .i64 a, .int .i64 b, .int .i64 c, .int .i64 d, .int .i64 e] 44)).cell? ⟨w.heap.size, 1, none⟩ = some (.int .i64 b) := hc 1
 have i2 : (w.alloc (.cells #[.int .i64 a, .int .i64 b, .int .i64 c, .int .i64 d, .int .i64 e] 44)).cell? ⟨w.heap.size, 2, none⟩ = some (.int .i64 c) := hc 2
 have i3 : (w.alloc (.cells #[.int .i64 a, .int .i64 b, .int .i64 c, .int .i64 d, .int .i64 e] 44)).cell? ⟨w.heap.size, 3, none⟩ = some (.int .i64 d) := hc 3
 have i4 : (w.alloc (.cells #[.int .i64 a, .int .i64 b, .int .i64 c, .int .i64 d, .int .i64 e] 44)).cell? ⟨w.heap.size, 4, none⟩ = some (.int .i64 e) := hc 4
 have HL := Lib.hid hL1
 have HE := Lib.hid hE
 have HM := Lib.hid (may_eq a b c d e)
 have hq := tag_eql a b c d e (nrA a) (nrR b) (nrC b c) (nrD d) (nrE e)
 have hg : Tryz.prog.eqGuardType Tryz.prog.depth 44 = false := by kernel_rfl
 clear hL hE hL1 hc
 go_enter Tryz.func137, Tryz.ntmps137
 go_wp2_with fail
 generalize (w.alloc (.cells #[.int .i64 a, .int .i64 b, .int .i64 c, .int .i64 d, .int .i64 e] 44)) = W at *
 generalize w.heap.size = g at *
 go_region_held3 (fun w' => w'.cell? ⟨g, 0, none⟩ = some (.int .i64 a) ∧ w'.cell? ⟨g, 1, none⟩ = some (.int .i64 b) ∧ w'.cell? ⟨g, 2, none⟩ = some (.int .i64 c) ∧ w'.cell? ⟨g, 3, none⟩ = some (.int .i64 d) ∧ w'.cell? ⟨g, 4, none⟩ = some (.int .i64 e))
  (first | with_reducible exact ⟨i0, i1, i2, i3, i4⟩ | exact ⟨Ext.cell hx i0, Ext.cell hx i1, Ext.cell hx i2, Ext.cell hx i3, Ext.cell hx i4⟩ | go_keep)
  (first
   | (go_at_call 208; ((with_reducible refine (nearest_any _ _ _ _ _ _ (HL.out.ext ((Ext.refl _).drew))).mono ?_); rintro r w' ⟨rfl, hx⟩)))
 rw [HM.out]
 have HE := Lib.hid (HE.out.trans (((Ext.refl W).drew).trans hx))
 clear hx hq hg i0 i1 i2 i3 i4
 go_wp2_with fail
 go_ret
 exact ⟨rfl, HE.out⟩
end
end Go.Proofs.YtmpaocpgoihliaaGreatDoor

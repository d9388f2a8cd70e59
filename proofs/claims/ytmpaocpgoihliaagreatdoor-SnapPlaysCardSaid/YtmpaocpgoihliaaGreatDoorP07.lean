/-
  The contract of Join (and of the library's Grow and Concat at bytes, which it calls): new memory that holds the lists one behind the other.
-/
import Derived.Test.YtmpaocpgoihliaaGreatDoorP00
import Derived.Test.YtmpaocpgoihliaaGreatDoorP01
import Derived.Test.YtmpaocpgoihliaaGreatDoorP05
import Derived.Test.YtmpaocpgoihliaaGreatDoorP06
import Derived.Test.YtmpaocpgoihliaaGreatDoorProg
import Derived.Lib.AppendZeros
import Derived.OwnWalk
import Derived.Outline
import Derived.WalkKit
import Derived.WalkSpells
import Derived.BigQuiet
import Derived.Lib.Hide
import Derived.Laws.Bits64
import Derived.Deep.DeepFit
import Derived.Laws.BitsAllLaws
namespace Go.Proofs.YtmpaocpgoihliaaGreatDoor
set_option maxRecDepth 100000
section
open Go Go.RowKit
theorem size_zeroCells_one (n : Nat) (z : Value) : (Builtin.zeroCells #[z] n).size = n := by
 simp [Builtin.zeroCells]
set_option maxHeartbeats 800000 in
theorem grow_nil (n : Nat) (w : World) (hn : n ≤ 140737488355328) :
 Calls Tryz.prog 228 #[.slice none 0 0, .int .i64 n] w fun e w' => ∃ v, e = .returned v ∧ w'.ownsRow w.heap.size 5 1 v 0 [] ∧ Below w.heap.size w w' := by
 obtain ⟨i0, hi, hz0, hz1, hz2⟩ := info_parts byte_info
 by_cases h0 : n = 0
 ·subst h0
  go_enter Tryz.func228, Tryz.ntmps228
  go_wp2_with fail
  go_ret
  exact ⟨_, rfl, World.ownsRow_nil _ _ _ _, Below.refl _ _⟩
 ·have hrun := fun ty => Lib.run_append_nil_zeros (P := Tryz.prog) w 45 3 ty 5 i0 (.int .u8 0) .i64 .i64 Tryz.underlying45 Tryz.underlying3 hi hz0 n (by omega) (by omega) (by omega) (by rw [hz2]; omega)
  have HR := Lib.hid hrun
  clear hrun
  have hcap := grownCap_le_maxLen w n 0 5 (by unfold maxLen; omega)
  have hge := grownCap_ge w n 0 5
  have hcs : (Builtin.zeroCells (Value.int .u8 0).cells n ++ Builtin.zeroCells (Value.int .u8 0).cells (grownCap w n 0 5 - n)).size = grownCap w n 0 5 * 1 := by
   have e : (Value.int IntKind.u8 0).cells = #[Value.int .u8 0] := rfl
   rw [e, Array.size_append, size_zeroCells_one, size_zeroCells_one]
   omega
  have HC := Lib.hid hcs
  clear hcs
  have hmx := hcap
  unfold maxLen at hmx
  generalize hgc : grownCap w n 0 5 = gc at *
  generalize hcells : (Builtin.zeroCells (Value.int .u8 0).cells n ++ Builtin.zeroCells (Value.int .u8 0).cells (gc - n)) = cells at *
  have HM := Lib.hid hcap
  clear hgc hcells hcap
  go_enter Tryz.func228, Tryz.ntmps228
  go_wp2_with (at_builtin; refine Lib.wpList_append_run _ rfl _ _ _ _ rfl _ _ rfl rfl _ _ (HR.out _) ?_)
  go_ret
  exact ⟨_, rfl, (World.ownsRow_made w cells gc (Nat.le_refl _) HM.out HC.out), ((Below.refl _ _).alloc (Nat.le_refl _) _).drew⟩
def cat (ps : List (Value × List Nat)) : List Nat := ps.flatMap (·.2)
theorem cat_step {ps : List (Value × List Nat)} {k : Nat} {p : Value × List Nat} (h : ps[k]? = some p) : cat (ps.take (k + 1)) = cat (ps.take k) ++ p.2 := by
 unfold cat
 rw [List.take_add_one, h, Option.toList_some, List.flatMap_append]
 simp
theorem cat_take_le (ps : List (Value × List Nat)) (k : Nat) : (cat (ps.take k)).length ≤ (cat ps).length := by
 have e : cat ps = cat (ps.take k) ++ cat (ps.drop k) := by
  unfold cat
  rw [← List.flatMap_append, List.take_append_drop]
 rw [e, List.length_append]
 omega
structure Parts (w : World) (B : Nat) (G : Option Addr) (m : Nat) (ps : List (Value × List Nat)) : Prop where
 len : ps.length = m
 at_ : 0 < m → ∃ g o, G = some ⟨g, o, none⟩ ∧ g < B ∧ ∀ j p, ps[j]? = some p → w.cell? ⟨g, o + j, none⟩ = some p.1
 each : ∀ p ∈ ps, ∃ A n c, p.1 = .slice A n c ∧ Bs w B A n c p.2
theorem Parts.below {w w' : World} {B : Nat} {G : Option Addr} {m : Nat} {ps : List (Value × List Nat)} (h : Parts w B G m ps) (hb : Below B w w') : Parts w' B G m ps := by
 refine ⟨h.len, fun hm => ?_, fun p hp => ?_⟩
 ·obtain ⟨g, o, e, hg, hc⟩ := h.at_ hm
  exact ⟨g, o, e, hg, fun j p hp => (hb.cell (p := ⟨g, o + j, none⟩) hg).trans (hc j p hp)⟩
 ·obtain ⟨A, n, c, e, hbs⟩ := h.each p hp
  exact ⟨A, n, c, e, hbs.below hb⟩
theorem Parts.get {w : World} {B : Nat} {G : Option Addr} {m : Nat} {ps : List (Value × List Nat)} (h : Parts w B G m ps) {k : Nat} (hk : k < m) :
 ∃ g o A n c l, G = some ⟨g, o, none⟩ ∧ g < B ∧ ps[k]? = some (.slice A n c, l) ∧ w.cell? ⟨g, o + k, none⟩ = some (.slice A n c) ∧ Bs w B A n c l := by
 obtain ⟨g, o, e, hg, hc⟩ := h.at_ (by omega)
 have hk' : k < ps.length := by rw [h.len]; exact hk
 obtain ⟨A, n, c, e1, hbs⟩ := h.each ps[k] (List.getElem_mem hk')
 have hp : ps[k]? = some (.slice A n c, ps[k].2) := by rw [List.getElem?_eq_getElem hk', ← e1]
 exact ⟨g, o, A, n, c, ps[k].2, e, hg, hp, hc k _ hp, hbs⟩
theorem cat_len_step {ps : List (Value × List Nat)} {k n : Nat} {v : Value} {l : List Nat} (h : ps[k]? = some (v, l)) (hl : l.length = n) : (cat (ps.take (k + 1))).length = (cat (ps.take k)).length + n := by
 rw [cat_step h, List.length_append, hl]
theorem concat_step {w wr w1 : World} {ps : List (Value × List Nat)} {k n : Nat} {v v1 u : Value} {l : List Nat} (hp : ps[k]? = some (u, l)) (hl : l.length = n)
 (hown : wr.ownsRow w.heap.size 5 1 v (cat (ps.take k)).length (vb (cat (ps.take k)))) (hbel : Below w.heap.size w wr)
 (hown1 : w1.ownsRow w.heap.size 5 1 v1 ((cat (ps.take k)).length + n) (vb (cat (ps.take k)) ++ vb l)) (hg : wr.grownBy w1 v.ownBlock) :
 w1.ownsRow w.heap.size 5 1 v1 (cat (ps.take (k + 1))).length (vb (cat (ps.take (k + 1)))) ∧ Below w.heap.size w w1 := by
 refine ⟨?_, ?_⟩
 ·rw [cat_len_step hp hl, cat_step hp, vb_append]
  exact hown1
 ·refine hbel.grown hg hbel.size ?_
  intro g hg'
  exact (hown.lt g hg').1
set_option maxHeartbeats 2000000 in
theorem concat_any (G : Option Addr) (m c : Nat) (ps : List (Value × List Nat)) (w : World) (hp : Parts w w.heap.size G m ps) (hm : m ≤ 9000000000000000000) (ht : (cat ps).length ≤ 140737488355328) :
 Calls Tryz.prog 186 #[.slice G m c] w fun e w' => ∃ A' c', e = .returned (.slice A' (cat ps).length c') ∧ w'.ownsRow w.heap.size 5 1 (.slice A' (cat ps).length c') (cat ps).length (vb (cat ps)) ∧ Below w.heap.size w w' := by
 obtain ⟨i0, hi, hz0, hz1, hz2⟩ := info_parts byte_info
 have HP := Lib.hid hp
 clear hp
 go_enter Tryz.func186, Tryz.ntmps186
 go_wp2_with fail
 go_loop [3, 11] (fun s i => ∃ k : Nat, k ≤ m ∧ i = .int .i64 k ∧ s = .int .i64 (((cat (ps.take k)).length : Nat) : Int)) (fun _ i => m - (intOf i).toNat)
 case atStart => exact ⟨0, Nat.zero_le _, rfl, rfl⟩
 case round =>
  obtain ⟨k, hk, rfl, rfl⟩ := hrel
  by_cases hlt : k < m
  ·obtain ⟨g, o, A, n, c1, l, hG, _, hpk, hcell, hbs⟩ := HP.out.get hlt
   subst hG
   have HS := Lib.hid (cat_len_step hpk hbs.len)
   have hle : (cat (ps.take (k + 1))).length ≤ (cat ps).length := cat_take_le ps (k + 1)
   rw [HS.out] at hle
   clear hpk hbs
   generalize hsn : (cat (ps.take k)).length = sn at *
   clear hsn
   go_wp2_with fail
   go_round
   case rel => exact ⟨k + 1, by omega, by go_num, by rw [HS.out]; go_num⟩
   case measure => simp [intOf]; omega
  ·have HK : Hid (k = m) := Lib.hid (by omega)
   have e0 : cat (ps.take k) = cat ps := by rw [HK.out, List.take_of_length_le (by rw [HP.out.len]; exact Nat.le_refl _)]
   rw [e0]
   clear e0
   go_wp2_with fail
   refine (grow_nil (cat ps).length _ ht).mono ?_
   rintro e w1 ⟨v1, rfl, hown1, hbel1⟩
   have HO1 := Lib.hid hown1
   have HB1 := Lib.hid hbel1
   clear hown1 hbel1 HK
   go_wp2_with fail
   go_loopw [6, 27] (fun v i wr => ∃ k : Nat, k ≤ m ∧ i = .int .i64 k ∧ Hid (wr.ownsRow w.heap.size 5 1 v (cat (ps.take k)).length (vb (cat (ps.take k)))) ∧ Hid (Below w.heap.size w wr)) (fun _ i _ => m - (intOf i).toNat)
   case atStart => exact ⟨0, Nat.zero_le _, rfl, HO1, HB1⟩
   case round =>
    obtain ⟨k, hk, rfl, HO, HB⟩ := hrel
    by_cases hlt : k < m
    ·obtain ⟨g, o, A, n, c1, l, hG, _, hpk, hcell, hbs⟩ := (HP.out.below HB.out).get hlt
     subst hG
     have HBS := Lib.hid hbs
     have HPK := Lib.hid hpk
     have hle : (cat (ps.take (k + 1))).length ≤ (cat ps).length := cat_take_le ps (k + 1)
     rw [cat_len_step hpk hbs.len] at hle
     have hsz := HB.out.size
     clear hpk hbs
     rcases A with _ | ad
     ·have hc0 : c1 = 0 := HBS.out.nil_ rfl
      subst hc0
      have hn0 : n = 0 := by have := HBS.out.cap; omega
      subst hn0
      have hl0 : l = [] := List.eq_nil_of_length_eq_zero HBS.out.len
      subst hl0
      go_wp2_with (at_builtin; refine wpList_append_own_none rfl _ _ 45 rfl w.heap.size 5 i0 1 Tryz.underlying45 hi _ _ _ rfl HO.out rfl ?_)
      go_roundw
      case rel => exact ⟨k + 1, by omega, by go_num, Lib.hid (by have h := HO.out; rw [cat_step HPK.out]; simpa using h), HB⟩
      case measure => simp [intOf]; omega
     ·go_wp2_with (at_builtin; refine wpList_append_own _ rfl _ _ 45 rfl w.heap.size 5 i0 (.int .u8 0) 1 1 Tryz.underlying45 hi hz0 hz1 hz2 rfl (by decide) _ _ _ rfl HO.out ad n c1 (vb l) rfl ?c1 ?c2 ?c3 ?c4 ?c5 ?c6 ?_)
      case c1 => rw [vb_length, HBS.out.len]; omega
      case c2 =>
       intro j u hj
       rw [vb_get] at hj
       obtain ⟨x, hx, rfl⟩ := Option.map_eq_some_iff.1 hj
       have hjl : j < l.length := (List.getElem?_eq_some_iff.1 hx).1
       obtain ⟨g', o', y, hA, _, hy, _, hc⟩ := HBS.out.rd.at_ hjl
       injection hA with hA
       subst hA
       rw [hx] at hy
       injection hy with hy
       subst hy
       rw [Addr.add_lit, hc]
      case c3 => exact vb_one l
      case c4 => unfold maxLen; omega
      case c5 => omega
      case c6 => exact hsz
      intro v2 w2 hown hg _
      have R := concat_step HPK.out HBS.out.len HO.out HB.out hown hg
      have HO2 := Lib.hid R.1
      have HB2 := Lib.hid R.2
      clear hown hg R
      go_wp2_with fail
      go_roundw
      case rel => exact ⟨k + 1, by omega, by go_num, HO2, HB2⟩
      case measure => simp [intOf]; omega
    ·have HK : Hid (k = m) := Lib.hid (by omega)
     have e0 : cat (ps.take k) = cat ps := by rw [HK.out, List.take_of_length_le (by rw [HP.out.len]; exact Nat.le_refl _)]
     have h1 := HO.out
     rw [e0] at h1
     obtain ⟨A', c', hv, _, _⟩ := own_form h1
     subst hv
     have HO3 := Lib.hid h1
     clear h1 e0
     go_wp2_with fail
     go_ret
     exact ⟨A', c', rfl, HO3.out, HB.out⟩
theorem join_any (G : Option Addr) (m c : Nat) (ps : List (Value × List Nat)) (w : World) (hp : Parts w w.heap.size G m ps) (hm : m ≤ 9000000000000000000) (ht : (cat ps).length ≤ 140737488355328) :
 Calls Tryz.prog 103 #[.slice G m c] w fun e w' => ∃ A' c', e = .returned (.slice A' (cat ps).length c') ∧ w'.ownsRow w.heap.size 5 1 (.slice A' (cat ps).length c') (cat ps).length (vb (cat ps)) ∧ Below w.heap.size w w' := by
 have HP := Lib.hid hp
 clear hp
 go_enter Tryz.func103, Tryz.ntmps103
 go_wp2_with fail
 refine (concat_any _ _ _ ps _ HP.out hm ht).mono ?_
 rintro e w1 ⟨A', c', rfl, hown, hbel⟩
 have HO := Lib.hid hown
 have HB := Lib.hid hbel
 clear hown hbel
 go_wp2_with fail
 go_ret
 exact ⟨A', c', rfl, HO.out, HB.out⟩
end
section
open Go Go.RowKit
theorem parts_lit {w : World} {ps : List (Value × List Nat)} {m : Nat} {cs : Array Value} {t : TypeId} (hm : ps.length = m) (hcs : cs = (ps.map (·.1)).toArray) (he : ∀ p ∈ ps, ∃ A n c, p.1 = .slice A n c ∧ By w A n c p.2) :
 Parts (w.alloc (.cells cs t)) (w.alloc (.cells cs t)).heap.size (some ⟨w.heap.size, 0, none⟩) m ps := by
 subst hcs
 refine ⟨hm, fun _ => ⟨_, 0, rfl, by simp, fun j p hp => ?_⟩, fun p hp => ?_⟩
 ·rw [Nat.zero_add, cell_of_row _ w.heap.size j _ t (0, 0) (heap_alloc_new w _), List.getElem?_toArray, List.getElem?_map, hp]
  rfl
 ·obtain ⟨A, n, c, e, h⟩ := he p hp
  exact ⟨A, n, c, e, h.ext ((Ext.refl w).alloc _)⟩
theorem join_by (ps : List (Value × List Nat)) (m N : Nat) (w : World) (cs : Array Value) (hm : ps.length = m) (hcs : cs = (ps.map (·.1)).toArray) (he : ∀ p ∈ ps, ∃ A n c, p.1 = .slice A n c ∧ By w A n c p.2)
 (hN : (cat ps).length = N) (hb : ∀ b ∈ cat ps, b < 256) (hm9 : m ≤ 1000) (hN9 : N ≤ 140737488355328) :
 Calls Tryz.prog 103 #[.slice (some ⟨w.heap.size, 0, none⟩) m m] (w.alloc (.cells cs 45)) fun e w' => ∃ A' c', e = .returned (.slice A' N c') ∧ By w' A' N c' (cat ps) ∧ Ext w w' := by
 refine (join_any _ m m ps _ (parts_lit hm hcs he) (by omega) (by omega)).mono ?_
 rintro e w' ⟨A', c', rfl, hown, hx⟩
 rw [hN] at hown
 exact ⟨A', c', by rw [hN], Bs.of_own hown hb, ((Ext.refl w).alloc _).trans hx⟩
theorem join2_by {A1 A2 : Option Addr} {n1 n2 c1 c2 : Nat} {l1 l2 : List Nat} (w : World) (h1 : By w A1 n1 c1 l1) (h2 : By w A2 n2 c2 l2) (hN : n1 + n2 ≤ 140737488355328) :
 Calls Tryz.prog 103 #[.slice (some ⟨w.heap.size, 0, none⟩) 2 2] (w.alloc (.cells #[.slice A1 n1 c1, .slice A2 n2 c2] 45)) fun e w' => ∃ A' c', e = .returned (.slice A' (n1 + n2) c') ∧ By w' A' (n1 + n2) c' (l1 ++ l2) ∧ Ext w w' := by
 have hcat : cat [(.slice A1 n1 c1, l1), (.slice A2 n2 c2, l2)] = l1 ++ l2 := by simp [cat]
 rw [← hcat]
 refine join_by _ 2 _ w _ rfl rfl ?_ (by rw [hcat, List.length_append, h1.len, h2.len]) ?_ (by omega) hN
 ·intro p hp
  simp only [List.mem_cons, List.not_mem_nil, or_false] at hp
  rcases hp with rfl | rfl
  ·exact ⟨_, _, _, rfl, h1⟩
  ·exact ⟨_, _, _, rfl, h2⟩
 ·rw [hcat]
  intro b hb
  simp only [List.mem_append] at hb
  rcases hb with h | h
  ·exact h1.rd.lt b h
  ·exact h2.rd.lt b h
end
section
open Go Go.RowKit
def Laid (w : World) : Prop :=
 w.cell? ⟨4, 0, none⟩ = some (.int .i64 0) ∧ w.cell? ⟨4, 1, none⟩ = some (.int .i64 256) ∧ w.cell? ⟨4, 2, none⟩ = some (.int .i64 65536) ∧ w.cell? ⟨4, 3, none⟩ = some (.int .i64 0) ∧
 w.cell? ⟨4, 4, none⟩ = some (.int .i64 4294967296) ∧ w.cell? ⟨4, 5, none⟩ = some (.int .i64 0) ∧ w.cell? ⟨4, 6, none⟩ = some (.int .i64 281474976710656)
theorem bound_any (x : Int) (w : World) (hL : Laid w) :
 Calls Tryz.prog 240 #[.int .i64 x] w fun e w' => e = .returned (.int .i64 (bnd x)) ∧ w = w' := by
 obtain ⟨h0, h1, h2, h3, h4, h5, h6⟩ := hL
 by_cases hn : x < 0
 ·have hb : bnd x = 0 := by unfold bnd; omega
  have HB := Lib.hid hb
  clear hb
  go_enter Tryz.func240, Tryz.ntmps240
  go_wp2_with fail
  go_ret
  exact ⟨by rw [HB.out]; rfl, rfl⟩
 ·by_cases hg : 7 ≤ x
  ·have hb : bnd x = 0 := by unfold bnd; omega
   have HB := Lib.hid hb
   clear hb
   go_enter Tryz.func240, Tryz.ntmps240
   go_wp2_with fail
   go_ret
   exact ⟨by rw [HB.out]; rfl, rfl⟩
  ·have hx : x = 0 ∨ x = 1 ∨ x = 2 ∨ x = 3 ∨ x = 4 ∨ x = 5 ∨ x = 6 := by omega
   clear hn hg
   rcases hx with rfl | rfl | rfl | rfl | rfl | rfl | rfl
   all_goals
    go_enter Tryz.func240, Tryz.ntmps240
    go_wp2_with fail
    go_ret
    exact ⟨rfl, rfl⟩
theorem fits_any (x n : Int) (w : World) (hL : Laid w) :
 Calls Tryz.prog 193 #[.int .i64 x, .int .i64 n] w fun e w' => e = .returned (.bool (fitsB x n)) ∧ w = w' := by
 by_cases hn : 0 ≤ n
 ·have H := Lib.hid hL
  clear hL
  go_enter Tryz.func193, Tryz.ntmps193
  go_wp2_with (go_at_call 240; refine (bound_any _ _ H.out).mono ?_; rintro e w' ⟨rfl, rfl⟩)
  go_ret
  exact ⟨by simp [fitsB, hn], rfl⟩
 ·have H := Lib.hid hL
  clear hL
  have HF := Lib.hid (show fitsB x n = false by simp only [fitsB, hn, decide_false, Bool.false_and])
  go_enter Tryz.func193, Tryz.ntmps193
  go_wp2_with (go_at_call 240; refine (bound_any _ _ H.out).mono ?_; rintro e w' ⟨rfl, rfl⟩)
  go_ret
  exact ⟨by rw [HF.out]; rfl, rfl⟩
theorem width_any (x : Int) (w : World) :
 Calls Tryz.prog 162 #[.int .i64 x] w fun e w' => e = .returned (.bool (wOk x)) ∧ w = w' := by
 by_cases h1 : x = 1
 ·subst h1
  go_enter Tryz.func162, Tryz.ntmps162
  go_wp2_with fail
  go_ret
  exact ⟨rfl, rfl⟩
 by_cases h2 : x = 2
 ·subst h2
  go_enter Tryz.func162, Tryz.ntmps162
  go_wp2_with fail
  go_ret
  exact ⟨rfl, rfl⟩
 by_cases h4 : x = 4
 ·subst h4
  go_enter Tryz.func162, Tryz.ntmps162
  go_wp2_with fail
  go_ret
  exact ⟨rfl, rfl⟩
 have g1 : (x == 1) = false := by simp [h1]
 have g2 : (x == 2) = false := by simp [h2]
 have g4 : (x == 4) = false := by simp [h4]
 clear h1 h2 h4
 go_enter Tryz.func162, Tryz.ntmps162
 go_wp2_with fail
 go_ret
 exact ⟨by simp [wOk, g1, g2, g4], rfl⟩
theorem div_step (n : Int) (k : Nat) : n / 256 ^ k / 256 = n / 256 ^ (k + 1) := by
 rw [Int.ediv_ediv_of_nonneg (Int.pow_nonneg (by omega)), Int.pow_succ]
theorem rfits_yes (x n : Int) (w : World) (hx : wOk x = true) (hn : 0 ≤ n) (hm : n ≤ 9223372036854775807) :
 Calls Tryz.prog 171 #[.int .i64 x, .int .i64 n] w fun e w' => e = .returned (.bool (fitsB x n)) ∧ w = w' := by
 have hx0 : 1 ≤ x ∧ x ≤ 6 := by rcases wOk_cases hx with rfl | rfl | rfl | rfl <;> omega
 have HX := Lib.hid hx
 clear hx
 go_enter Tryz.func171, Tryz.ntmps171
 go_wp2_with (go_at_call 162; refine (width_any _ _).mono ?_; rintro e w' ⟨rfl, rfl⟩; rw [HX.out])
 go_loop [1, 5] (fun q i => ∃ k : Nat, (k : Int) ≤ x ∧ i = .int .i64 k ∧ q = .int .i64 (n / 256 ^ k)) (fun _ i => (x - intOf i).toNat)
 case atStart => exact ⟨0, by omega, rfl, by simp⟩
 case round =>
  obtain ⟨k, hk, rfl, rfl⟩ := hrel
  have q0 : 0 ≤ n / 256 ^ k := Int.ediv_nonneg hn (Int.pow_nonneg (by omega))
  have q1 : n / 256 ^ k ≤ n := Int.ediv_le_self _ hn
  have q2 : n / 256 ^ k ≤ 9223372036854775807 := by omega
  clear q1
  by_cases hlt : (k : Int) < x
  ·go_wp2_with fail
   go_round
   case rel => exact ⟨k + 1, by omega, by go_num, by rw [← div_step]⟩
   case measure => simp [intOf]; omega
  ·have hkx : (k : Int) = x := by omega
   have HK := Lib.hid hkx
   clear hkx
   go_wp2_with fail
   go_ret
   refine ⟨?_, rfl⟩
   have hw := bnd_of_wOk HX.out
   have e1 : x.toNat = k := by have := HK.out; omega
   rw [e1] at hw
   simp only [fitsB, hn, hw, decide_true, Bool.true_and]
   refine congrArg (fun b => Ending.returned (Value.bool b)) ?_
   rw [Bool.eq_iff_iff, beq_iff_eq, decide_eq_true_eq]
   have hp : (0 : Int) < 256 ^ k := Int.pow_pos (by omega)
   constructor
   ·intro h
    have := Int.emod_lt_of_pos n hp
    have h2 := Int.emod_add_mul_ediv n (256 ^ k)
    rw [h] at h2
    omega
   ·intro h
    exact Int.ediv_eq_zero_of_lt hn h
theorem rfits_any (x n : Int) (w : World) (hm : n ≤ 9223372036854775807) :
 Calls Tryz.prog 171 #[.int .i64 x, .int .i64 n] w fun e w' => e = .returned (.bool (fitsB x n)) ∧ w = w' := by
 by_cases hx : wOk x = true
 ·by_cases hn : 0 ≤ n
  ·exact rfits_yes x n w hx hn hm
  ·have HF := Lib.hid (show fitsB x n = false by simp [fitsB, hn])
   have HX := Lib.hid hx
   clear hx
   go_enter Tryz.func171, Tryz.ntmps171
   go_wp2_with (go_at_call 162; refine (width_any _ _).mono ?_; rintro e w' ⟨rfl, rfl⟩; rw [HX.out])
   go_ret
   exact ⟨by rw [HF.out]; rfl, rfl⟩
 ·have hx' : wOk x = false := by simpa using hx
  have HF := Lib.hid (show fitsB x n = false by simp only [fitsB, bnd_of_not hx', Bool.and_eq_false_iff, decide_eq_false_iff_not]; omega)
  have HX := Lib.hid hx'
  clear hx hx'
  go_enter Tryz.func171, Tryz.ntmps171
  go_wp2_with (go_at_call 162; refine (width_any _ _).mono ?_; rintro e w' ⟨rfl, rfl⟩; rw [HX.out])
  go_ret
  exact ⟨by rw [HF.out]; rfl, rfl⟩
end
section
open Go Go.RowKit
def getS (l : List Nat) (at_ x : Int) : Nat × Nat × Int :=
 if wOk x = false ∨ at_ < 0 ∨ (l.length : Int) < at_ then (0, 0, 2)
 else if (l.length : Int) - at_ < x then (0, 0, 10)
 else (num ((l.drop at_.toNat).take x.toNat), at_.toNat + x.toNat, 0)
theorem getS_arg {l : List Nat} {at_ x : Int} (h : wOk x = false ∨ at_ < 0 ∨ (l.length : Int) < at_) : getS l at_ x = (0, 0, 2) := by
 unfold getS
 rw [if_pos h]
theorem getS_short {l : List Nat} {at_ x : Int} (h1 : wOk x = true) (h2 : 0 ≤ at_) (h3 : at_ ≤ l.length) (h4 : (l.length : Int) - at_ < x) : getS l at_ x = (0, 0, 10) := by
 unfold getS
 rw [if_neg (by rw [h1]; simp; omega), if_pos h4]
theorem getS_yes {l : List Nat} {at_ x : Int} (h1 : wOk x = true) (h2 : 0 ≤ at_) (h3 : at_ ≤ l.length) (h4 : x ≤ (l.length : Int) - at_) : getS l at_ x = (num ((l.drop at_.toNat).take x.toNat), at_.toNat + x.toNat, 0) := by
 unfold getS
 rw [if_neg (by rw [h1]; simp; omega), if_neg (by omega)]
theorem num_step {l : List Nat} {a k x : Nat} (h : l[a + k]? = some x) : num ((l.drop a).take (k + 1)) = num ((l.drop a).take k) + 256 ^ k * x := by
 have e : (l.drop a)[k]? = some x := by rw [List.getElem?_drop]; exact h
 have hk : k < (l.drop a).length := (List.getElem?_eq_some_iff.1 e).1
 rw [List.take_add_one, e, Option.toList_some, num_snoc, List.length_take, Nat.min_eq_left (by omega)]
theorem num_take_lt {l : List Nat} (hl : ∀ b ∈ l, b < 256) (a k : Nat) (hk : k ≤ 6) : num ((l.drop a).take k) < 281474976710656 := by
 have h1 := num_lt ((l.drop a).take k) (fun b hb => hl b (List.mem_of_mem_drop (List.mem_of_mem_take hb)))
 have h2 : ((l.drop a).take k).length ≤ 6 := by rw [List.length_take]; omega
 exact Nat.lt_of_lt_of_le h1 (Nat.le_trans (Nat.pow_le_pow_right (by omega) h2) (by decide))
theorem pow_le_48 (k : Nat) (hk : k ≤ 6) : 256 ^ k ≤ 281474976710656 := Nat.le_trans (Nat.pow_le_pow_right (by omega) hk) (by decide)
set_option maxHeartbeats 800000 in
theorem rget_any (A : Option Addr) (l : List Nat) (n c B : Nat) (a x : Int) (w : World) (hl : l.length = n) (hr : Rd w B A l) (hm : n ≤ 9000000000000000000) :
 Calls Tryz.prog 71 #[.slice A n c, .int .i64 a, .int .i64 x] w fun e w' => e = .returned (.tuple #[.int .i64 (getS l a x).1, .int .i64 (getS l a x).2.1, .int .i64 (getS l a x).2.2]) ∧ w = w' := by
 by_cases h1 : wOk x = true
 ·by_cases h2 : a < 0
  ·have HF := Lib.hid (getS_arg (l := l) (at_ := a) (x := x) (.inr (.inl h2)))
   have HX := Lib.hid h1
   clear h1 hl
   go_enter Tryz.func71, Tryz.ntmps71
   go_wp2_with (go_at_call 162; refine (width_any _ _).mono ?_; rintro e w' ⟨rfl, rfl⟩; rw [HX.out])
   go_ret3
   exact ⟨by rw [HF.out]; rfl, rfl⟩
  ·by_cases h3 : (n : Int) < a
   ·have HF := Lib.hid (getS_arg (l := l) (at_ := a) (x := x) (.inr (.inr (by rw [hl]; exact h3))))
    have HX := Lib.hid h1
    clear h1 hl
    go_enter Tryz.func71, Tryz.ntmps71
    go_wp2_with (go_at_call 162; refine (width_any _ _).mono ?_; rintro e w' ⟨rfl, rfl⟩; rw [HX.out])
    go_ret3
    exact ⟨by rw [HF.out]; rfl, rfl⟩
   ·have hx0 : 1 ≤ x ∧ x ≤ 6 := by rcases wOk_cases h1 with rfl | rfl | rfl | rfl <;> omega
    by_cases h4 : (n : Int) - a < x
    ·have HF := Lib.hid (getS_short (l := l) (at_ := a) (x := x) h1 (by omega) (by omega) (by omega))
     have HX := Lib.hid h1
     clear h1 hl
     go_enter Tryz.func71, Tryz.ntmps71
     go_wp2_with (go_at_call 162; refine (width_any _ _).mono ?_; rintro e w' ⟨rfl, rfl⟩; rw [HX.out])
     go_ret3
     exact ⟨by rw [HF.out]; rfl, rfl⟩
    ·obtain ⟨a, rfl⟩ := Int.eq_ofNat_of_zero_le (show 0 ≤ a by omega)
     obtain ⟨x, rfl⟩ := Int.eq_ofNat_of_zero_le (show 0 ≤ x by omega)
     have HF := Lib.hid (getS_yes (l := l) (at_ := a) (x := x) h1 (by omega) (by omega) (by omega))
     have HX := Lib.hid h1
     have HL := Lib.hid hl
     have hlt := hr.lt
     have HLT := Lib.hid hlt
     clear h1 hl hlt
     go_enter Tryz.func71, Tryz.ntmps71
     go_wp2_with (go_at_call 162; refine (width_any _ _).mono ?_; rintro e w' ⟨rfl, rfl⟩; rw [HX.out])
     go_loop [9, 10, 11] (fun s p i => ∃ k : Nat, k ≤ x ∧ i = .int .i64 k ∧ p = .int .i64 ((256 ^ k : Nat) : Int) ∧ s = .int .i64 ((num ((l.drop a).take k) : Nat) : Int)) (fun _ _ i => x - (intOf i).toNat)
     case atStart => exact ⟨0, Nat.zero_le _, rfl, rfl, rfl⟩
     case round =>
      obtain ⟨k, hk, rfl, rfl, rfl⟩ := hrel
      by_cases hkx : k < x
      ·obtain ⟨g, o, b, hA, _, hb, hb2, hc⟩ := hr.at_ (k := a + k) (by rw [HL.out]; omega)
       subst hA
       have hc' : w.cell? ⟨g, o + (a + k), none⟩ = some (.int .u8 ((b : Nat) : Int)) := hc
       have HS := Lib.hid (num_step hb)
       have hs1 := num_take_lt HLT.out a k (by omega)
       have hp := pow_le_48 k (by omega)
       have hmul : (256 ^ k) * b ≤ 281474976710656 * 255 := Nat.mul_le_mul hp (by omega)
       have hpn : 256 ^ (k + 1) = 256 * 256 ^ k := by rw [Nat.pow_succ, Nat.mul_comm]
       have HP := Lib.hid hpn
       clear hb hpn hc
       generalize hsn : num ((l.drop a).take k) = sn at *
       generalize hpk : 256 ^ k = pk at *
       have hmul' : (pk : Int) * (b : Int) ≤ 281474976710656 * 255 := by rw [← Int.natCast_mul]; omega
       have hmul0 : 0 ≤ (pk : Int) * (b : Int) := Int.mul_nonneg (by omega) (by omega)
       clear hsn hpk
       go_wp2_with fail
       go_round
       case rel => exact ⟨k + 1, by omega, by go_num, by rw [HP.out]; go_num, by rw [HS.out]; go_num⟩
       case measure => simp [intOf]; omega
      ·have HK : Hid (k = x) := Lib.hid (by omega)
       go_wp2_with fail
       go_ret3
       exact ⟨by rw [HF.out, HK.out]; simp, rfl⟩
 ·have HF := Lib.hid (getS_arg (l := l) (at_ := a) (x := x) (.inl (by simpa using h1)))
  have HX := Lib.hid (show wOk x = false by simpa using h1)
  clear h1 hl
  go_enter Tryz.func71, Tryz.ntmps71
  go_wp2_with (go_at_call 162; refine (width_any _ _).mono ?_; rintro e w' ⟨rfl, rfl⟩; rw [HX.out])
  go_ret3
  exact ⟨by rw [HF.out]; rfl, rfl⟩
end
section
open Go Go.RowKit
theorem i64_or_nat (a b : Nat) (ha : a < 9223372036854775808) (hb : b < 9223372036854775808) : bits .or .i64 (a : Int) (b : Int) = ((a ||| b : Nat) : Int) := by
 have h : a ||| b < 2 ^ 63 := Nat.or_lt_two_pow (by omega) (by omega)
 show IntKind.i64.wrap ((BitVec.ofInt 64 (a : Int) ||| BitVec.ofInt 64 (b : Int)).toNat : Int) = _
 rw [BitVec.toNat_or, ofInt_u64 a (by omega), ofInt_u64 b (by omega), IntKind.wrap_i64]
 omega
theorem or_step (s b k : Nat) (hk : k ≤ 5) (hs : s < 256 ^ k) (hb : b < 256) : bits .or .i64 (s : Int) (wrap64 ((b : Int) * 2 ^ (8 * k))) = ((s + 256 ^ k * b : Nat) : Int) := by
 have e : (2 : Nat) ^ (8 * k) = 256 ^ k := by rw [Nat.pow_mul]
 have e' : ((b : Int) * 2 ^ (8 * k)) = ((b * 256 ^ k : Nat) : Int) := by rw [← e]; simp
 have hp : 256 ^ k ≤ 1099511627776 := Nat.le_trans (Nat.pow_le_pow_right (by omega) hk) (by decide)
 have hm : b * 256 ^ k ≤ 255 * 1099511627776 := Nat.mul_le_mul (by omega) hp
 rw [e', IntWalk.wrap64_in _ ⟨by omega, by omega⟩, i64_or_nat _ _ (by omega) (by omega), Nat.or_comm, nat_join (8 * k) _ _ (by rw [e]; exact Nat.mul_mod_left _ _) (by rw [e]; exact hs), Nat.mul_comm]
 congr 1
 omega
theorem num_take_lt' {l : List Nat} (hl : ∀ b ∈ l, b < 256) (a k : Nat) : num ((l.drop a).take k) < 256 ^ k := by
 have h1 := num_lt ((l.drop a).take k) (fun b hb => hl b (List.mem_of_mem_drop (List.mem_of_mem_take hb)))
 exact Nat.lt_of_lt_of_le h1 (Nat.pow_le_pow_right (by omega) (List.length_take_le _ _))
set_option maxHeartbeats 800000 in
theorem oget_any (A : Option Addr) (l : List Nat) (n c B : Nat) (a x : Int) (w : World) (hL : Laid w) (hl : l.length = n) (hr : Rd w B A l) (hm : n ≤ 9000000000000000000) :
 Calls Tryz.prog 209 #[.slice A n c, .int .i64 a, .int .i64 x] w fun e w' => e = .returned (.tuple #[.int .i64 (getS l a x).1, .int .i64 (getS l a x).2.1, .int .i64 (getS l a x).2.2]) ∧ w = w' := by
 have H := Lib.hid hL
 clear hL
 by_cases h1 : wOk x = true
 ·have hx0 : 1 ≤ x ∧ x ≤ 6 := by rcases wOk_cases h1 with rfl | rfl | rfl | rfl <;> omega
  have hb0 : (bnd x == 0) = false := by rcases wOk_cases h1 with rfl | rfl | rfl | rfl <;> rfl
  by_cases h2 : a < 0
  ·have HF := Lib.hid (getS_arg (l := l) (at_ := a) (x := x) (.inr (.inl h2)))
   clear h1 hl
   go_enter Tryz.func209, Tryz.ntmps209
   go_wp2_with (go_at_call 240; refine (bound_any _ _ H.out).mono ?_; rintro e w' ⟨rfl, rfl⟩)
   go_ret3
   exact ⟨by rw [HF.out]; rfl, rfl⟩
  ·by_cases h3 : (n : Int) < a
   ·have HF := Lib.hid (getS_arg (l := l) (at_ := a) (x := x) (.inr (.inr (by rw [hl]; exact h3))))
    clear h1 hl
    go_enter Tryz.func209, Tryz.ntmps209
    go_wp2_with (go_at_call 240; refine (bound_any _ _ H.out).mono ?_; rintro e w' ⟨rfl, rfl⟩)
    go_ret3
    exact ⟨by rw [HF.out]; rfl, rfl⟩
   ·by_cases h4 : (n : Int) - a < x
    ·have HF := Lib.hid (getS_short (l := l) (at_ := a) (x := x) h1 (by omega) (by omega) (by omega))
     clear h1 hl
     go_enter Tryz.func209, Tryz.ntmps209
     go_wp2_with (go_at_call 240; refine (bound_any _ _ H.out).mono ?_; rintro e w' ⟨rfl, rfl⟩)
     go_ret3
     exact ⟨by rw [HF.out]; rfl, rfl⟩
    ·obtain ⟨a, rfl⟩ := Int.eq_ofNat_of_zero_le (show 0 ≤ a by omega)
     obtain ⟨x, rfl⟩ := Int.eq_ofNat_of_zero_le (show 0 ≤ x by omega)
     have HF := Lib.hid (getS_yes (l := l) (at_ := a) (x := x) h1 (by omega) (by omega) (by omega))
     have HL := Lib.hid hl
     have hlt := hr.lt
     have HLT := Lib.hid hlt
     clear h1 hl hlt
     go_enter Tryz.func209, Tryz.ntmps209
     go_wp2_with (go_at_call 240; refine (bound_any _ _ H.out).mono ?_; rintro e w' ⟨rfl, rfl⟩)
     go_loop [6, 30] (fun s i => ∃ k : Nat, k ≤ x ∧ i = .int .i64 k ∧ s = .int .i64 ((num ((l.drop a).take k) : Nat) : Int)) (fun _ i => x - (intOf i).toNat)
     case atStart => exact ⟨0, Nat.zero_le _, rfl, rfl⟩
     case round =>
      obtain ⟨k, hk, rfl, rfl⟩ := hrel
      by_cases hkx : k < x
      ·obtain ⟨g, o, b, hA, _, hb, hb2, hc⟩ := hr.at_ (k := a + k) (by rw [HL.out]; omega)
       subst hA
       have hc' : w.cell? ⟨g, o + (a + k), none⟩ = some (.int .u8 ((b : Nat) : Int)) := hc
       have HS := Lib.hid (num_step hb)
       have hs1 := num_take_lt HLT.out a k (by omega)
       clear hb hc
       go_wp2_with fail
       go_round
       case rel => exact ⟨k + 1, by omega, by go_num, by rw [HS.out]; exact congrArg (Value.int .i64) (or_step _ b k (by omega) (num_take_lt' HLT.out a k) hb2)⟩
       case measure => simp [intOf]; omega
      ·have HK : Hid (k = x) := Lib.hid (by omega)
       go_wp2_with fail
       go_ret3
       exact ⟨by rw [HF.out, HK.out]; simp, rfl⟩
 ·have HF := Lib.hid (getS_arg (l := l) (at_ := a) (x := x) (.inl (by simpa using h1)))
  have hb0 : (bnd x == 0) = true := by rw [bnd_of_not (by simpa using h1)]; rfl
  clear h1 hl
  go_enter Tryz.func209, Tryz.ntmps209
  go_wp2_with (go_at_call 240; refine (bound_any _ _ H.out).mono ?_; rintro e w' ⟨rfl, rfl⟩)
  go_ret3
  exact ⟨by rw [HF.out]; rfl, rfl⟩
end
section
open Go Go.RowKit
theorem Laid.keep {w w' : World} (h : Laid w) (hk : ∀ p : Addr, p.block < w.heap.size → w'.cell? p = w.cell? p) : Laid w' := by
 have hlt : 4 < w.heap.size := World.block_lt_of_cell? w _ h.1
 unfold Laid at h ⊢
 obtain ⟨h0, h1, h2, h3, h4, h5, h6⟩ := h
 exact ⟨(hk _ hlt).trans h0, (hk _ hlt).trans h1, (hk _ hlt).trans h2, (hk _ hlt).trans h3, (hk _ hlt).trans h4, (hk _ hlt).trans h5, (hk _ hlt).trans h6⟩
theorem Laid.below {w w' : World} (h : Laid w) (hb : Below w.heap.size w w') : Laid w' := h.keep fun _ hp => hb.cell hp
theorem Laid.ext {a b : World} (h : Laid a) (k : Ext a b) : Laid b := h.below k
end
section
open Go Go.RowKit
theorem pad_set (k x N : Nat) (hk : k < x) : (vb (digs k N ++ List.replicate (x - k) 0)).set k (.int .u8 ((N / 256 ^ k % 256 : Nat) : Int)) = vb (digs (k + 1) N ++ List.replicate (x - (k + 1)) 0) := by
 have e : x - k = (x - (k + 1)) + 1 := by omega
 rw [digs_snoc, e, List.replicate_succ]
 simp only [vb, List.map_append, List.map_cons, List.append_assoc, List.map_nil]
 rw [List.set_append_right _ _ (by simp [digs_length])]
 simp [digs_length]
theorem shr_byte (N k : Nat) : (((N : Int) / 2 ^ (8 * k)) % 256) = ((N / 256 ^ k % 256 : Nat) : Int) := by
 have e : (2 : Nat) ^ (8 * k) = 256 ^ k := by rw [Nat.pow_mul]
 rw [← e]
 simp
set_option maxHeartbeats 800000 in
theorem oput_yes (x N : Nat) (w : World) (hL : Laid w) (hf : fitsB x N = true) :
 Calls Tryz.prog 111 #[.int .i64 x, .int .i64 N] w fun e w' => ∃ A' c', e = .returned (.tuple #[.slice A' x c', .int .i64 0]) ∧ w'.ownsRow w.heap.size 5 1 (.slice A' x c') x (vb (digs x N)) ∧ Below w.heap.size w w' := by
 obtain ⟨i0, hi, hz0, hz1, hz2⟩ := info_parts byte_info
 obtain ⟨hw, _, hN⟩ := fits_iff.1 hf
 have hx0 : 1 ≤ x ∧ x ≤ 6 := by rcases wOk_cases hw with h | h | h | h <;> omega
 have hN2 : N < 281474976710656 := by
  have h1 : 256 ^ x ≤ 256 ^ 6 := Nat.pow_le_pow_right (by omega) hx0.2
  simp only [Int.toNat_natCast] at hN
  exact Nat.lt_of_lt_of_le hN (Nat.le_trans h1 (by decide))
 have H := Lib.hid hL
 have HF := Lib.hid hf
 clear hL hf hN hw
 go_enter Tryz.func111, Tryz.ntmps111
 go_wp2_with (first
  | (go_at_call 193; refine (fits_any _ _ _ H.out).mono ?_; rintro e w' ⟨rfl, rfl⟩; rw [HF.out])
  | (at_make; refine wpList_make_full _ rfl _ _ 45 rfl w.heap.size 5 i0 (.int .u8 0) 1 Tryz.underlying45 hi hz0 hz1 .i64 .i64 _ _ x rfl rfl rfl rfl ?b1 ?b2 ?b3 ?_))
 case b1 => rw [hz2]; omega
 case b2 => unfold maxLen; omega
 case b3 => exact Nat.le_refl _
 intro w1 hown hg
 have HO : Hid (w1.ownsRow w.heap.size 5 1 (.slice (some ⟨w.heap.size, 0, none⟩) x x) x (vb (digs 0 N ++ List.replicate (x - 0) 0))) := by
  have e : (madeCells #[Value.int .u8 0] x).toList = vb (digs 0 N ++ List.replicate (x - 0) 0) := by
   rw [toList_madeCells_one]
   simp [vb, digs]
  rw [e] at hown
  exact hown
 have HB := Lib.hid ((Below.refl w.heap.size w).grown hg (Nat.le_refl _) (by simp))
 clear hown hg
 go_wp2_with fail
 go_loopw [15] (fun i wr => ∃ k : Nat, k ≤ x ∧ i = .int .i64 k ∧ Hid (wr.ownsRow w.heap.size 5 1 (.slice (some ⟨w.heap.size, 0, none⟩) x x) x (vb (digs k N ++ List.replicate (x - k) 0))) ∧ Below w.heap.size w wr) (fun i _ => x - (intOf i).toNat)
 case atStart => exact ⟨0, Nat.zero_le _, rfl, HO, HB.out⟩
 case round =>
  obtain ⟨k, hk, rfl, HOk, hbk⟩ := hrel
  have HBk := Lib.hid hbk
  clear hbk
  by_cases hlt : k < x
  ·have hcell : ∃ v, wr.cell? ⟨w.heap.size, k, none⟩ = some v := by
    rw [HOk.out.cellAt k (by omega)]
    exact ⟨_, List.getElem?_eq_getElem (by rw [vb_length, List.length_append, digs_length, List.length_replicate]; omega)⟩
   obtain ⟨v0, hv0⟩ := hcell
   have hfz := HOk.out.frozenAt k
   go_wp2_with fail
   go_roundw
   case rel =>
    refine ⟨k + 1, by omega, by go_num, ?_, HBk.out.setCell (Nat.le_refl _) _⟩
    have hs := (HOk.out.stored k (.int .u8 ((N / 256 ^ k % 256 : Nat) : Int))).1
    rw [pad_set k x N hlt] at hs
    rw [← shr_byte] at hs
    exact hs
   case measure => simp [intOf]; omega
  ·have HK : Hid (k = x) := Lib.hid (by omega)
   go_wp2_with fail
   go_ret2
   refine ⟨_, _, rfl, ?_, HBk.out⟩
   have := HOk.out
   rw [HK.out, Nat.sub_self, List.replicate_zero, List.append_nil] at this
   exact this
theorem rput_step {w wr w1 : World} {k q N : Nat} {v v1 : Value} (hq : q = N / 256 ^ k) (hown : wr.ownsRow w.heap.size 5 1 v k (vb (digs k N))) (hbel : Below w.heap.size w wr)
 (hown1 : w1.ownsRow w.heap.size 5 1 v1 (k + 1) (vb (digs k N) ++ [.int .u8 ((q : Int) % 256)])) (hg : (wr.alloc (.cells #[.int .u8 ((q : Int) % 256)] 5)).grownBy w1 v.ownBlock) :
 w1.ownsRow w.heap.size 5 1 v1 (k + 1) (vb (digs (k + 1) N)) ∧ Below w.heap.size w w1 := by
 refine ⟨?_, ?_⟩
 ·rw [digs_snoc, vb_append]
  have e : ((q : Int) % 256) = ((N / 256 ^ k % 256 : Nat) : Int) := by rw [← hq]; omega
  rw [e] at hown1
  exact hown1
 ·refine (hbel.alloc hbel.size _).grown hg (Nat.le_trans hbel.size (by simp)) ?_
  intro g hg'
  exact (hown.lt g hg').1
set_option maxHeartbeats 1000000 in
theorem rput_yes (x N : Nat) (w : World) (hf : fitsB x N = true) :
 Calls Tryz.prog 83 #[.int .i64 x, .int .i64 N] w fun e w' => ∃ A' c', e = .returned (.tuple #[.slice A' x c', .int .i64 0]) ∧ w'.ownsRow w.heap.size 5 1 (.slice A' x c') x (vb (digs x N)) ∧ Below w.heap.size w w' := by
 obtain ⟨i0, hi, hz0, hz1, hz2⟩ := info_parts byte_info
 obtain ⟨hw, _, hN⟩ := fits_iff.1 hf
 have hx0 : 1 ≤ x ∧ x ≤ 6 := by rcases wOk_cases hw with h | h | h | h <;> omega
 have hN2 : N < 281474976710656 := by
  have h1 : 256 ^ x ≤ 256 ^ 6 := Nat.pow_le_pow_right (by omega) hx0.2
  simp only [Int.toNat_natCast] at hN
  exact Nat.lt_of_lt_of_le hN (Nat.le_trans h1 (by decide))
 have HF := Lib.hid hf
 clear hf hN hw
 go_enter Tryz.func83, Tryz.ntmps83
 go_wp2_with (go_at_call 171; refine (rfits_any _ _ _ (by omega)).mono ?_; rintro e w' ⟨rfl, rfl⟩; rw [HF.out])
 go_loopw [1, 6, 7] (fun m v i wr => ∃ k q : Nat, k ≤ x ∧ i = .int .i64 k ∧ m = .int .i64 q ∧ Hid (q = N / 256 ^ k) ∧ q ≤ N ∧ Hid (wr.ownsRow w.heap.size 5 1 v k (vb (digs k N))) ∧ Below w.heap.size w wr) (fun _ _ i _ => x - (intOf i).toNat)
 case atStart => exact ⟨0, N, Nat.zero_le _, rfl, rfl, Lib.hid (by simp), Nat.le_refl _, Lib.hid (World.ownsRow_nil _ _ _ _), Below.refl _ _⟩
 case round =>
  obtain ⟨k, q, hk, rfl, rfl, HQ, hqN, HO, hbk⟩ := hrel
  have HBk := Lib.hid hbk
  have hsz := hbk.size
  clear hbk
  by_cases hlt : k < x
  ·go_wp2_with (at_builtin; refine wpList_append_own _ rfl _ _ 45 rfl w.heap.size 5 i0 (.int .u8 0) 1 1 Tryz.underlying45 hi hz0 hz1 hz2 rfl (by decide) _ _ _ rfl (HO.out.alloc _) ⟨wr.heap.size, 0, none⟩ 1 1 [.int .u8 ((q : Int) % 256)] rfl rfl ?c1 ?c2 ?c3 ?c4 ?c5 ?_)
   case c1 =>
    intro j u hj
    match j, hj with
    | 0, hj => simp at hj; subst hj; simp [Addr.add]
   case c2 => intro u hu; simp at hu; subst hu; rfl
   case c3 => unfold maxLen; omega
   case c4 => omega
   case c5 => simp; omega
   intro v1 w1 hown hg _
   have R := rput_step HQ.out HO.out HBk.out hown hg
   have HO1 := Lib.hid R.1
   have HB1 := Lib.hid R.2
   clear hown hg R
   go_wp2_with fail
   go_roundw
   case rel => exact ⟨k + 1, q / 256, by omega, by go_num, by go_num, Lib.hid (by rw [HQ.out, Nat.div_div_eq_div_mul, Nat.pow_succ]), by omega, HO1, HB1.out⟩
   case measure => simp [intOf]; omega
  ·have HK : Hid (k = x) := Lib.hid (by omega)
   obtain ⟨A', c', hv, _, _⟩ := own_form HO.out
   subst hv
   go_wp2_with fail
   go_ret2
   have h1 := HO.out
   rw [HK.out] at h1
   exact ⟨A', c', by rw [HK.out]; rfl, h1, HBk.out⟩
end
section
open Go Go.RowKit
theorem getS_zero {l : List Nat} {x : Nat} (hw : wOk x = true) (h : x ≤ l.length) : getS l 0 x = (num (l.take x), x, 0) := by
 rw [getS_yes hw (by omega) (by omega) (by omega)]
 simp
theorem put_by (x N : Nat) (w : World) (hL : Laid w) (hf : fitsB x N = true) :
 Calls Tryz.prog 111 #[.int .i64 x, .int .i64 N] w fun e w' => ∃ A' c', e = .returned (.tuple #[.slice A' x c', .int .i64 0]) ∧ By w' A' x c' (digs x N) ∧ Ext w w' :=
 (oput_yes x N w hL hf).mono fun _ _ ⟨A', c', h1, h2, h3⟩ => ⟨A', c', h1, Bs.of_own h2 (digs_lt x N), h3⟩
theorem get_by (A : Option Addr) (l : List Nat) (n c : Nat) (a x : Int) (w : World) (hL : Laid w) (hb : By w A n c l) (hm : n ≤ 9000000000000000000) :
 Calls Tryz.prog 209 #[.slice A n c, .int .i64 a, .int .i64 x] w fun e w' => e = .returned (.tuple #[.int .i64 (getS l a x).1, .int .i64 (getS l a x).2.1, .int .i64 (getS l a x).2.2]) ∧ Ext w w' :=
 (oget_any A l n c _ a x w hL hb.len hb.rd hm).mono fun _ _ ⟨h, hw⟩ => ⟨h, by subst hw; exact Ext.refl _⟩
end
end Go.Proofs.YtmpaocpgoihliaaGreatDoor

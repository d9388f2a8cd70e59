/-
  The contracts of Put, the program's and the document's: the bytes of a number in a width, or which error.
-/
import Derived.Test.YtnlappoocffcpaaDoorB00
import Derived.Test.YtnlappoocffcpaaDoorB01
import Derived.OwnWalk
import Derived.Test.YtnlappoocffcpaaDoorProg
import Derived.Lib.AppendZeros
import Derived.Outline
import Derived.Laws.IdiomStrings
import Derived.Laws.BytesString
import Derived.Tactics
import Derived.WalkKit
import Derived.WalkSpells
import Derived.WalkLawsBesides
import Derived.BigQuiet
import Derived.Lib.Hide
import Derived.Lib.SliceRun
import Derived.Shelf.Bytes.SlCountOne
import Derived.Shelf.Bytes.SlSmallAll
import Derived.Deep.RegionHeld3
import Derived.Laws.Tables
import Derived.Laws.CopyOwn
import Derived.IntWalk
import Derived.Deep.QuietTactic
import Derived.Laws.OwnMore
import Derived.Laws.BitsAllLaws
import Derived.Lib.SmallJoins
namespace Go.Proofs.YtnlappoocffcpaaDoor
set_option maxRecDepth 100000
section
open Go Go.RowKit
theorem pad_set (k x N : Nat) (hk : k < x) : (vb (digs k N ++ List.replicate (x - k) 0)).set k (.int .u8 ((N / 256 ^ k % 256 : Nat) : Int)) = vb (digs (k + 1) N ++ List.replicate (x - (k + 1)) 0) := by
  have e : x - k = (x - (k + 1)) + 1 := by omega
  rw [digs_snoc, e, List.replicate_succ]
  simp only [vb, List.map_append, List.map_cons, List.append_assoc, List.map_nil]
  rw [List.set_append_right _ _ (by simp [digs_length])]
  simp [digs_length]
theorem shr_byte (N k : Nat) : (((N : Int) / 2 ^ (8 * k)) % 256) = ((N / 256 ^ k % 256 : Nat) : Int) := by
  have e : (2 : Nat) ^ (8 * k) = 256 ^ k := by rw [Nat.pow_mul]
  rw [← e]
  simp
set_option maxHeartbeats 800000 in
theorem oput_yes (x N : Nat) (w : World) (hL : Laid w) (hf : fitsB x N = true) :
    Calls Tryd.prog 13 #[.int .i64 x, .int .i64 N] w fun e w' => ∃ A' c', e = .returned (.tuple #[.slice A' x c', .int .i64 0]) ∧ w'.ownsRow w.heap.size 5 1 (.slice A' x c') x (vb (digs x N)) ∧ Below w.heap.size w w' := by
  obtain ⟨i0, hi, hz0, hz1, hz2⟩ := info_parts byte_info
  obtain ⟨hw, _, hN⟩ := fits_iff.1 hf
  have hx0 : 1 ≤ x ∧ x ≤ 6 := by rcases wOk_cases hw with h | h | h | h <;> omega
  have hN2 : N < 281474976710656 := by
    have h1 : 256 ^ x ≤ 256 ^ 6 := Nat.pow_le_pow_right (by omega) hx0.2
    simp only [Int.toNat_natCast] at hN
    exact Nat.lt_of_lt_of_le hN (Nat.le_trans h1 (by decide))
  have H := Lib.hid hL
  have HF := Lib.hid hf
  clear hL hf hN hw
  go_enter Tryd.func13, Tryd.ntmps13
  go_wp2_with (first
    | (go_at_call 22; refine (fits_any _ _ _ H.out).mono ?_; rintro e w' ⟨rfl, rfl⟩; rw [HF.out])
    | (at_make; refine wpList_make_full _ rfl _ _ 22 rfl w.heap.size 5 i0 (.int .u8 0) 1 Tryd.underlying22 hi hz0 hz1 .i64 .i64 _ _ x rfl rfl rfl rfl ?b1 ?b2 ?b3 ?_))
  case b1 => rw [hz2]; omega
  case b2 => unfold maxLen; omega
  case b3 => exact Nat.le_refl _
  intro w1 hown hg
  have HO : Hid (w1.ownsRow w.heap.size 5 1 (.slice (some ⟨w.heap.size, 0, none⟩) x x) x (vb (digs 0 N ++ List.replicate (x - 0) 0))) := by
    have e : (madeCells #[Value.int .u8 0] x).toList = vb (digs 0 N ++ List.replicate (x - 0) 0) := by
      rw [toList_madeCells_one]
      simp [vb, digs]
    rw [e] at hown
    exact hown
  have HB := Lib.hid ((Below.refl w.heap.size w).grown hg (Nat.le_refl _) (by simp))
  clear hown hg
  go_wp2_with fail
  go_loopw [15] (fun i wr => ∃ k : Nat, k ≤ x ∧ i = .int .i64 k ∧ Hid (wr.ownsRow w.heap.size 5 1 (.slice (some ⟨w.heap.size, 0, none⟩) x x) x (vb (digs k N ++ List.replicate (x - k) 0))) ∧ Below w.heap.size w wr) (fun i _ => x - (intOf i).toNat)
  case atStart => exact ⟨0, Nat.zero_le _, rfl, HO, HB.out⟩
  case round =>
    obtain ⟨k, hk, rfl, HOk, hbk⟩ := hrel
    have HBk := Lib.hid hbk
    clear hbk
    by_cases hlt : k < x
    · have hcell : ∃ v, wr.cell? ⟨w.heap.size, k, none⟩ = some v := by
        rw [HOk.out.cellAt k (by omega)]
        exact ⟨_, List.getElem?_eq_getElem (by rw [vb_length, List.length_append, digs_length, List.length_replicate]; omega)⟩
      obtain ⟨v0, hv0⟩ := hcell
      have hfz := HOk.out.frozenAt k
      go_wp2_with fail
      go_roundw
      case rel =>
        refine ⟨k + 1, by omega, by go_num, ?_, HBk.out.setCell (Nat.le_refl _) _⟩
        have hs := (HOk.out.stored k (.int .u8 ((N / 256 ^ k % 256 : Nat) : Int))).1
        rw [pad_set k x N hlt] at hs
        rw [← shr_byte] at hs
        exact hs
      case measure => simp [intOf]; omega
    · have HK : Hid (k = x) := Lib.hid (by omega)
      go_wp2_with fail
      go_ret2
      refine ⟨_, _, rfl, ?_, HBk.out⟩
      have := HOk.out
      rw [HK.out, Nat.sub_self, List.replicate_zero, List.append_nil] at this
      exact this
end
section
open Go Go.RowKit
theorem put_by (x N : Nat) (w : World) (hL : Laid w) (hf : fitsB x N = true) :
    Calls Tryd.prog 13 #[.int .i64 x, .int .i64 N] w fun e w' => ∃ A' c', e = .returned (.tuple #[.slice A' x c', .int .i64 0]) ∧ By w' A' x c' (digs x N) ∧ Ext w w' :=
  (oput_yes x N w hL hf).mono fun _ _ ⟨A', c', h1, h2, h3⟩ => ⟨A', c', h1, Bs.of_own h2 (digs_lt x N), h3⟩
theorem get_by (A : Option Addr) (l : List Nat) (n c : Nat) (a x : Int) (w : World) (hL : Laid w) (hb : By w A n c l) (hm : n ≤ 9000000000000000000) :
    Calls Tryd.prog 15 #[.slice A n c, .int .i64 a, .int .i64 x] w fun e w' => e = .returned (.tuple #[.int .i64 (getS l a x).1, .int .i64 (getS l a x).2.1, .int .i64 (getS l a x).2.2]) ∧ Ext w w' :=
  (oget_any A l n c _ a x w hL hb.len hb.rd hm).mono fun _ _ ⟨h, hw⟩ => ⟨h, by subst hw; exact Ext.refl _⟩
end
section
open Go Go.RowKit
theorem size_zeroCells_one (n : Nat) (z : Value) : (Builtin.zeroCells #[z] n).size = n := by
  simp [Builtin.zeroCells]
set_option maxHeartbeats 800000 in
theorem grow_nil (n : Nat) (w : World) (hn : n ≤ 140737488355328) :
    Calls Tryd.prog 30 #[.slice none 0 0, .int .i64 n] w fun e w' => ∃ v, e = .returned v ∧ w'.ownsRow w.heap.size 5 1 v 0 [] ∧ Below w.heap.size w w' := by
  obtain ⟨i0, hi, hz0, hz1, hz2⟩ := info_parts byte_info
  by_cases h0 : n = 0
  · subst h0
    go_enter Tryd.func30, Tryd.ntmps30
    go_wp2_with fail
    go_ret
    exact ⟨_, rfl, World.ownsRow_nil _ _ _ _, Below.refl _ _⟩
  · have hrun := fun ty => Lib.run_append_nil_zeros (P := Tryd.prog) w 22 3 ty 5 i0 (.int .u8 0) .i64 .i64 Tryd.underlying22 Tryd.underlying3 hi hz0 n (by omega) (by omega) (by omega) (by rw [hz2]; omega)
    have HR := Lib.hid hrun
    clear hrun
    have hcap := grownCap_le_maxLen w n 0 5 (by unfold maxLen; omega)
    have hge := grownCap_ge w n 0 5
    have hcs : (Builtin.zeroCells (Value.int .u8 0).cells n ++ Builtin.zeroCells (Value.int .u8 0).cells (grownCap w n 0 5 - n)).size = grownCap w n 0 5 * 1 := by
      have e : (Value.int IntKind.u8 0).cells = #[Value.int .u8 0] := rfl
      rw [e, Array.size_append, size_zeroCells_one, size_zeroCells_one]
      omega
    have HC := Lib.hid hcs
    clear hcs
    have hmx := hcap
    unfold maxLen at hmx
    generalize hgc : grownCap w n 0 5 = gc at *
    generalize hcells : (Builtin.zeroCells (Value.int .u8 0).cells n ++ Builtin.zeroCells (Value.int .u8 0).cells (gc - n)) = cells at *
    have HM := Lib.hid hcap
    clear hgc hcells hcap
    go_enter Tryd.func30, Tryd.ntmps30
    go_wp2_with (at_builtin; refine Lib.wpList_append_run _ rfl _ _ _ _ rfl _ _ rfl rfl _ _ (HR.out _) ?_)
    go_ret
    exact ⟨_, rfl, (World.ownsRow_made w cells gc (Nat.le_refl _) HM.out HC.out), ((Below.refl _ _).alloc (Nat.le_refl _) _).drew⟩
def cat (ps : List (Value × List Nat)) : List Nat := ps.flatMap (·.2)
theorem cat_step {ps : List (Value × List Nat)} {k : Nat} {p : Value × List Nat} (h : ps[k]? = some p) : cat (ps.take (k + 1)) = cat (ps.take k) ++ p.2 := by
  unfold cat
  rw [List.take_add_one, h, Option.toList_some, List.flatMap_append]
  simp
theorem cat_take_le (ps : List (Value × List Nat)) (k : Nat) : (cat (ps.take k)).length ≤ (cat ps).length := by
  have e : cat ps = cat (ps.take k) ++ cat (ps.drop k) := by
    unfold cat
    rw [← List.flatMap_append, List.take_append_drop]
  rw [e, List.length_append]
  omega
structure Parts (w : World) (B : Nat) (G : Option Addr) (m : Nat) (ps : List (Value × List Nat)) : Prop where
  len : ps.length = m
  at_ : 0 < m → ∃ g o, G = some ⟨g, o, none⟩ ∧ g < B ∧ ∀ j p, ps[j]? = some p → w.cell? ⟨g, o + j, none⟩ = some p.1
  each : ∀ p ∈ ps, ∃ A n c, p.1 = .slice A n c ∧ Bs w B A n c p.2
theorem Parts.below {w w' : World} {B : Nat} {G : Option Addr} {m : Nat} {ps : List (Value × List Nat)} (h : Parts w B G m ps) (hb : Below B w w') : Parts w' B G m ps := by
  refine ⟨h.len, fun hm => ?_, fun p hp => ?_⟩
  · obtain ⟨g, o, e, hg, hc⟩ := h.at_ hm
    exact ⟨g, o, e, hg, fun j p hp => (hb.cell (p := ⟨g, o + j, none⟩) hg).trans (hc j p hp)⟩
  · obtain ⟨A, n, c, e, hbs⟩ := h.each p hp
    exact ⟨A, n, c, e, hbs.below hb⟩
theorem Parts.get {w : World} {B : Nat} {G : Option Addr} {m : Nat} {ps : List (Value × List Nat)} (h : Parts w B G m ps) {k : Nat} (hk : k < m) :
    ∃ g o A n c l, G = some ⟨g, o, none⟩ ∧ g < B ∧ ps[k]? = some (.slice A n c, l) ∧ w.cell? ⟨g, o + k, none⟩ = some (.slice A n c) ∧ Bs w B A n c l := by
  obtain ⟨g, o, e, hg, hc⟩ := h.at_ (by omega)
  have hk' : k < ps.length := by rw [h.len]; exact hk
  obtain ⟨A, n, c, e1, hbs⟩ := h.each ps[k] (List.getElem_mem hk')
  have hp : ps[k]? = some (.slice A n c, ps[k].2) := by rw [List.getElem?_eq_getElem hk', ← e1]
  exact ⟨g, o, A, n, c, ps[k].2, e, hg, hp, hc k _ hp, hbs⟩
theorem cat_len_step {ps : List (Value × List Nat)} {k n : Nat} {v : Value} {l : List Nat} (h : ps[k]? = some (v, l)) (hl : l.length = n) : (cat (ps.take (k + 1))).length = (cat (ps.take k)).length + n := by
  rw [cat_step h, List.length_append, hl]
theorem concat_step {w wr w1 : World} {ps : List (Value × List Nat)} {k n : Nat} {v v1 u : Value} {l : List Nat} (hp : ps[k]? = some (u, l)) (hl : l.length = n)
    (hown : wr.ownsRow w.heap.size 5 1 v (cat (ps.take k)).length (vb (cat (ps.take k)))) (hbel : Below w.heap.size w wr)
    (hown1 : w1.ownsRow w.heap.size 5 1 v1 ((cat (ps.take k)).length + n) (vb (cat (ps.take k)) ++ vb l)) (hg : wr.grownBy w1 v.ownBlock) :
    w1.ownsRow w.heap.size 5 1 v1 (cat (ps.take (k + 1))).length (vb (cat (ps.take (k + 1)))) ∧ Below w.heap.size w w1 := by
  refine ⟨?_, ?_⟩
  · rw [cat_len_step hp hl, cat_step hp, vb_append]
    exact hown1
  · refine hbel.grown hg hbel.size ?_
    intro g hg'
    exact (hown.lt g hg').1
set_option maxHeartbeats 2000000 in
theorem concat_any (G : Option Addr) (m c : Nat) (ps : List (Value × List Nat)) (w : World) (hp : Parts w w.heap.size G m ps) (hm : m ≤ 9000000000000000000) (ht : (cat ps).length ≤ 140737488355328) :
    Calls Tryd.prog 23 #[.slice G m c] w fun e w' => ∃ A' c', e = .returned (.slice A' (cat ps).length c') ∧ w'.ownsRow w.heap.size 5 1 (.slice A' (cat ps).length c') (cat ps).length (vb (cat ps)) ∧ Below w.heap.size w w' := by
  obtain ⟨i0, hi, hz0, hz1, hz2⟩ := info_parts byte_info
  have HP := Lib.hid hp
  clear hp
  go_enter Tryd.func23, Tryd.ntmps23
  go_wp2_with fail
  go_loop [3, 11] (fun s i => ∃ k : Nat, k ≤ m ∧ i = .int .i64 k ∧ s = .int .i64 (((cat (ps.take k)).length : Nat) : Int)) (fun _ i => m - (intOf i).toNat)
  case atStart => exact ⟨0, Nat.zero_le _, rfl, rfl⟩
  case round =>
    obtain ⟨k, hk, rfl, rfl⟩ := hrel
    by_cases hlt : k < m
    · obtain ⟨g, o, A, n, c1, l, hG, _, hpk, hcell, hbs⟩ := HP.out.get hlt
      subst hG
      have HS := Lib.hid (cat_len_step hpk hbs.len)
      have hle : (cat (ps.take (k + 1))).length ≤ (cat ps).length := cat_take_le ps (k + 1)
      rw [HS.out] at hle
      clear hpk hbs
      generalize hsn : (cat (ps.take k)).length = sn at *
      clear hsn
      go_wp2_with fail
      go_round
      case rel => exact ⟨k + 1, by omega, by go_num, by rw [HS.out]; go_num⟩
      case measure => simp [intOf]; omega
    · have HK : Hid (k = m) := Lib.hid (by omega)
      have e0 : cat (ps.take k) = cat ps := by rw [HK.out, List.take_of_length_le (by rw [HP.out.len]; exact Nat.le_refl _)]
      rw [e0]
      clear e0
      go_wp2_with fail
      refine (grow_nil (cat ps).length _ ht).mono ?_
      rintro e w1 ⟨v1, rfl, hown1, hbel1⟩
      have HO1 := Lib.hid hown1
      have HB1 := Lib.hid hbel1
      clear hown1 hbel1 HK
      go_wp2_with fail
      go_loopw [6, 27] (fun v i wr => ∃ k : Nat, k ≤ m ∧ i = .int .i64 k ∧ Hid (wr.ownsRow w.heap.size 5 1 v (cat (ps.take k)).length (vb (cat (ps.take k)))) ∧ Hid (Below w.heap.size w wr)) (fun _ i _ => m - (intOf i).toNat)
      case atStart => exact ⟨0, Nat.zero_le _, rfl, HO1, HB1⟩
      case round =>
        obtain ⟨k, hk, rfl, HO, HB⟩ := hrel
        by_cases hlt : k < m
        · obtain ⟨g, o, A, n, c1, l, hG, _, hpk, hcell, hbs⟩ := (HP.out.below HB.out).get hlt
          subst hG
          have HBS := Lib.hid hbs
          have HPK := Lib.hid hpk
          have hle : (cat (ps.take (k + 1))).length ≤ (cat ps).length := cat_take_le ps (k + 1)
          rw [cat_len_step hpk hbs.len] at hle
          have hsz := HB.out.size
          clear hpk hbs
          rcases A with _ | ad
          · have hc0 : c1 = 0 := HBS.out.nil_ rfl
            subst hc0
            have hn0 : n = 0 := by have := HBS.out.cap; omega
            subst hn0
            have hl0 : l = [] := List.eq_nil_of_length_eq_zero HBS.out.len
            subst hl0
            go_wp2_with (at_builtin; refine wpList_append_own_none rfl _ _ 22 rfl w.heap.size 5 i0 1 Tryd.underlying22 hi _ _ _ rfl HO.out rfl ?_)
            go_roundw
            case rel => exact ⟨k + 1, by omega, by go_num, Lib.hid (by have h := HO.out; rw [cat_step HPK.out]; simpa using h), HB⟩
            case measure => simp [intOf]; omega
          · go_wp2_with (at_builtin; refine wpList_append_own _ rfl _ _ 22 rfl w.heap.size 5 i0 (.int .u8 0) 1 1 Tryd.underlying22 hi hz0 hz1 hz2 rfl (by decide) _ _ _ rfl HO.out ad n c1 (vb l) rfl ?c1 ?c2 ?c3 ?c4 ?c5 ?c6 ?_)
            case c1 => rw [vb_length, HBS.out.len]; omega
            case c2 =>
              intro j u hj
              rw [vb_get] at hj
              obtain ⟨x, hx, rfl⟩ := Option.map_eq_some_iff.1 hj
              have hjl : j < l.length := (List.getElem?_eq_some_iff.1 hx).1
              obtain ⟨g', o', y, hA, _, hy, _, hc⟩ := HBS.out.rd.at_ hjl
              injection hA with hA
              subst hA
              rw [hx] at hy
              injection hy with hy
              subst hy
              rw [Addr.add_lit, hc]
            case c3 => exact vb_one l
            case c4 => unfold maxLen; omega
            case c5 => omega
            case c6 => exact hsz
            intro v2 w2 hown hg _
            have R := concat_step HPK.out HBS.out.len HO.out HB.out hown hg
            have HO2 := Lib.hid R.1
            have HB2 := Lib.hid R.2
            clear hown hg R
            go_wp2_with fail
            go_roundw
            case rel => exact ⟨k + 1, by omega, by go_num, HO2, HB2⟩
            case measure => simp [intOf]; omega
        · have HK : Hid (k = m) := Lib.hid (by omega)
          have e0 : cat (ps.take k) = cat ps := by rw [HK.out, List.take_of_length_le (by rw [HP.out.len]; exact Nat.le_refl _)]
          have h1 := HO.out
          rw [e0] at h1
          obtain ⟨A', c', hv, _, _⟩ := own_form h1
          subst hv
          have HO3 := Lib.hid h1
          clear h1 e0
          go_wp2_with fail
          go_ret
          exact ⟨A', c', rfl, HO3.out, HB.out⟩
theorem join_any (G : Option Addr) (m c : Nat) (ps : List (Value × List Nat)) (w : World) (hp : Parts w w.heap.size G m ps) (hm : m ≤ 9000000000000000000) (ht : (cat ps).length ≤ 140737488355328) :
    Calls Tryd.prog 14 #[.slice G m c] w fun e w' => ∃ A' c', e = .returned (.slice A' (cat ps).length c') ∧ w'.ownsRow w.heap.size 5 1 (.slice A' (cat ps).length c') (cat ps).length (vb (cat ps)) ∧ Below w.heap.size w w' := by
  have HP := Lib.hid hp
  clear hp
  go_enter Tryd.func14, Tryd.ntmps14
  go_wp2_with fail
  refine (concat_any _ _ _ ps _ HP.out hm ht).mono ?_
  rintro e w1 ⟨A', c', rfl, hown, hbel⟩
  have HO := Lib.hid hown
  have HB := Lib.hid hbel
  clear hown hbel
  go_wp2_with fail
  go_ret
  exact ⟨A', c', rfl, HO.out, HB.out⟩
end
section
open Go Go.RowKit
theorem parts_lit {w : World} {ps : List (Value × List Nat)} {m : Nat} {cs : Array Value} {t : TypeId} (hm : ps.length = m) (hcs : cs = (ps.map (·.1)).toArray) (he : ∀ p ∈ ps, ∃ A n c, p.1 = .slice A n c ∧ By w A n c p.2) :
    Parts (w.alloc (.cells cs t)) (w.alloc (.cells cs t)).heap.size (some ⟨w.heap.size, 0, none⟩) m ps := by
  subst hcs
  refine ⟨hm, fun _ => ⟨_, 0, rfl, by simp, fun j p hp => ?_⟩, fun p hp => ?_⟩
  · rw [Nat.zero_add, cell_of_row _ w.heap.size j _ t (0, 0) (heap_alloc_new w _), List.getElem?_toArray, List.getElem?_map, hp]
    rfl
  · obtain ⟨A, n, c, e, h⟩ := he p hp
    exact ⟨A, n, c, e, h.ext ((Ext.refl w).alloc _)⟩
theorem join_by (ps : List (Value × List Nat)) (m N : Nat) (w : World) (cs : Array Value) (hm : ps.length = m) (hcs : cs = (ps.map (·.1)).toArray) (he : ∀ p ∈ ps, ∃ A n c, p.1 = .slice A n c ∧ By w A n c p.2)
    (hN : (cat ps).length = N) (hb : ∀ b ∈ cat ps, b < 256) (hm9 : m ≤ 1000) (hN9 : N ≤ 140737488355328) :
    Calls Tryd.prog 14 #[.slice (some ⟨w.heap.size, 0, none⟩) m m] (w.alloc (.cells cs 22)) fun e w' => ∃ A' c', e = .returned (.slice A' N c') ∧ By w' A' N c' (cat ps) ∧ Ext w w' := by
  refine (join_any _ m m ps _ (parts_lit hm hcs he) (by omega) (by omega)).mono ?_
  rintro e w' ⟨A', c', rfl, hown, hx⟩
  rw [hN] at hown
  exact ⟨A', c', by rw [hN], Bs.of_own hown hb, ((Ext.refl w).alloc _).trans hx⟩
theorem join2_by {A1 A2 : Option Addr} {n1 n2 c1 c2 : Nat} {l1 l2 : List Nat} (w : World) (h1 : By w A1 n1 c1 l1) (h2 : By w A2 n2 c2 l2) (hN : n1 + n2 ≤ 140737488355328) :
    Calls Tryd.prog 14 #[.slice (some ⟨w.heap.size, 0, none⟩) 2 2] (w.alloc (.cells #[.slice A1 n1 c1, .slice A2 n2 c2] 22)) fun e w' => ∃ A' c', e = .returned (.slice A' (n1 + n2) c') ∧ By w' A' (n1 + n2) c' (l1 ++ l2) ∧ Ext w w' := by
  have hcat : cat [(.slice A1 n1 c1, l1), (.slice A2 n2 c2, l2)] = l1 ++ l2 := by simp [cat]
  rw [← hcat]
  refine join_by _ 2 _ w _ rfl rfl ?_ (by rw [hcat, List.length_append, h1.len, h2.len]) ?_ (by omega) hN
  · intro p hp
    simp only [List.mem_cons, List.not_mem_nil, or_false] at hp
    rcases hp with rfl | rfl
    · exact ⟨_, _, _, rfl, h1⟩
    · exact ⟨_, _, _, rfl, h2⟩
  · rw [hcat]
    intro b hb
    simp only [List.mem_append] at hb
    rcases hb with h | h
    · exact h1.rd.lt b h
    · exact h2.rd.lt b h
end
section
open Go Go.RowKit
def bl (s : ByteArray) : List Nat := s.data.toList.map UInt8.toNat
end
section
open Go Go.RowKit
def bdZ (count : Int) (c : List Nat) : Bool := decide (1 ≤ count ∧ count ≤ 8 ∧ c.length ≤ 80)
theorem bdZ_iff {count : Int} {c : List Nat} : bdZ count c = true ↔ 1 ≤ count ∧ count ≤ 8 ∧ c.length ≤ 80 := decide_eq_true_iff
def prZE (count : Int) (c : List Nat) : Int := if bdZ count c = true then 0 else 2
def prZL (count : Int) (c : List Nat) : List Nat := if bdZ count c = true then count.toNat :: c else []
def paZ : List Nat → Nat × List Nat × Int
  | [] => (0, [], 120)
  | x :: r => if 1 ≤ x ∧ x ≤ 8 ∧ r.length ≤ 80 then (x, r, 0) else (0, [], 120)
theorem paZ_back {count : Int} {c : List Nat} (h : bdZ count c = true) : paZ (prZL count c) = (count.toNat, c, 0) := by
  have := bdZ_iff.1 h
  unfold prZL
  rw [if_pos h]
  show (if _ then _ else _) = _
  rw [if_pos (by omega)]
theorem paZ_of {l : List Nat} (h : (paZ l).2.2 = 0) : bdZ ((paZ l).1 : Int) (paZ l).2.1 = true ∧ prZL ((paZ l).1 : Int) (paZ l).2.1 = l := by
  cases l with
  | nil => cases h
  | cons x r =>
    have e : paZ (x :: r) = if 1 ≤ x ∧ x ≤ 8 ∧ r.length ≤ 80 then (x, r, 0) else (0, [], 120) := rfl
    rw [e] at h ⊢
    split at h
    · rename_i hx
      rw [if_pos hx]
      have hb : bdZ (x : Int) r = true := bdZ_iff.2 (by omega)
      exact ⟨hb, by unfold prZL; rw [if_pos hb]; simp⟩
    · cases h
theorem digs_byteZ {n : Nat} (h : n < 256) : digs 1 n = [n] := by simp [digs]; omega
theorem fits_byteZ {n : Nat} (h : n < 256) : fitsB (1 : Nat) n = true := fits_iff.2 ⟨rfl, by omega, by simpa using h⟩
set_option maxHeartbeats 1000000 in
theorem zprint_any (count : Int) (A : Option Addr) (n c : Nat) (l : List Nat) (w : World) (hL : Laid w) (hb : By w A n c l) (hn : n ≤ 140737488355000) :
    Calls Tryd.prog 6 #[.int .i64 count, .slice A n c] w fun e w' => ∃ A' N' c', e = .returned (.tuple #[.slice A' N' c', .int .i64 (prZE count l)]) ∧ By w' A' N' c' (prZL count l) ∧ Ext w w' := by
  have HL := Lib.hid hL
  have HB := Lib.hid hb
  have hlen := hb.len
  clear hL hb
  cases hz : bdZ count l with
  | true =>
    obtain ⟨h1, h8, h80⟩ := bdZ_iff.1 hz
    obtain ⟨k, rfl⟩ := Int.eq_ofNat_of_zero_le (show 0 ≤ count by omega)
    have hin : inZ 1 (k : Int) 8 = true := inZ_iff.2 ⟨h1, h8⟩
    have HIN := Lib.hid hin
    have HZ := Lib.hid hz
    have hk : k ≤ 8 := by omega
    have hn80 : n ≤ 80 := by omega
    have hp := fun V (hV : Laid V) => put_by 1 k V hV (fits_byteZ (by omega))
    rw [digs_byteZ (show k < 256 by omega)] at hp
    have HP := Lib.hid hp
    clear hin hz h1 h8 h80 hlen hp
    go_enter Tryd.func6, Tryd.ntmps6
    go_wp2_with fail
    refine (zcount_of _ _).mono ?_
    rw [HIN.out]
    rintro e w1 ⟨rfl, rfl⟩
    go_wp2_with fail
    refine (HP.out _ HL.out).mono ?_
    rintro e w1 ⟨A1, c1, rfl, hby, hx⟩
    have HBY := Lib.hid hby
    have HX := Lib.hid hx
    have HB1 := Lib.hid (HB.out.ext hx)
    clear hby hx
    go_wp2_with fail
    have hj := join2_by w1 HBY.out HB1.out (by omega)
    rw [show ([k] : List Nat) ++ l = k :: l from rfl] at hj
    refine hj.mono ?_
    rintro e w2 ⟨A2, c2, rfl, hby, hx⟩
    have HBY2 := Lib.hid hby
    have HX2 := Lib.hid (HX.out.trans hx)
    clear hby hx hj
    go_wp2_with fail
    refine bodyPost_ret (v := .tuple #[.slice A2 (1 + n) c2, .int .i64 0]) (by simp [results, Tryd.results6, go_sem]) rfl ?_
    exact ⟨A2, 1 + n, c2, by unfold prZE; rw [HZ.out]; rfl, by unfold prZL; rw [HZ.out]; simpa using HBY2.out, HX2.out⟩
  | false =>
    have HZ := Lib.hid hz
    cases hin : inZ 1 count 8 with
    | false =>
      have HIN := Lib.hid hin
      clear hz hin
      go_enter Tryd.func6, Tryd.ntmps6
      go_wp2_with fail
      refine (zcount_of _ _).mono ?_
      rw [HIN.out]
      rintro e w1 ⟨rfl, rfl⟩
      go_wp2_with fail
      refine bodyPost_ret (v := .tuple #[.slice none 0 0, .int .i64 2]) (by simp [results, Tryd.results6, go_sem]) rfl ?_
      exact ⟨none, 0, 0, by unfold prZE; rw [HZ.out]; rfl, by unfold prZL; rw [HZ.out]; exact By.nil_ _, Ext.refl _⟩
    | true =>
      have h81 : 80 < n := by
        have h1 := inZ_iff.1 hin
        by_cases h : n ≤ 80
        · have hln := Bs.len HB.out
          have := (bdZ_iff (count := count) (c := l)).2 ⟨h1.1, h1.2, by omega⟩
          rw [hz] at this
          cases this
        · omega
      have HIN := Lib.hid hin
      clear hz hin
      go_enter Tryd.func6, Tryd.ntmps6
      go_wp2_with fail
      refine (zcount_of _ _).mono ?_
      rw [HIN.out]
      rintro e w1 ⟨rfl, rfl⟩
      go_wp2_with fail
      refine bodyPost_ret (v := .tuple #[.slice none 0 0, .int .i64 2]) (by simp [results, Tryd.results6, go_sem]) rfl ?_
      exact ⟨none, 0, 0, by unfold prZE; rw [HZ.out]; rfl, by unfold prZL; rw [HZ.out]; exact By.nil_ _, Ext.refl _⟩
def tlA (A : Option Addr) (c : Nat) : Option Addr := if c = 1 then A else A.map fun a => a.add 1
theorem By.tail1 {w : World} {A : Option Addr} {n c x : Nat} {r : List Nat} (h : By w A n c (x :: r)) : By w (tlA A c) (n - 1) (c - 1) r := by
  have hl := h.len
  have hcp := h.cap
  have hm := h.most
  rw [List.length_cons] at hl
  obtain ⟨g, o, hA, _⟩ := h.rd.2 (by simp)
  cases r with
  | nil =>
    simp at hl
    refine ⟨by simp; omega, by omega, by omega, Rd.nil_, fun e => ?_⟩
    subst hA
    unfold tlA at e
    split at e
    · cases e
    · cases e
  | cons y r =>
    rw [List.length_cons] at hl
    subst hA
    have e : tlA (some ⟨g, o, none⟩) c = some ⟨g, o + 1, none⟩ := by
      unfold tlA
      rw [if_neg (by omega), Option.map_some, Addr.add_lit]
    rw [e]
    refine ⟨by rw [List.length_cons]; omega, by omega, by omega, h.rd.drop rfl 1, fun e => by cases e⟩
theorem zcut_one (A : Option Addr) (n c : Nat) (h : 1 ≤ n) (w : World) : (Instr.slice 22 (.slice A n c) (some (.int .i64 1)) none none).run Tryd.prog w = .ok (.slice (tlA A c) (n - 1) (c - 1)) w := by
  have ht : Tryd.prog.elem 22 = 5 := by kernel_rfl
  rw [run_slice_l w 22 A n c (by rw [ht]; exact Tryd.underlying22) .i64 1 (by omega) (by omega), u8_sizeZ]
  simp only [Result.andThen, sliced]
  rw [show (1 : Int).toNat = 1 from rfl]
  unfold tlA
  simp
theorem getS_cons (x : Nat) (r : List Nat) : getS (x :: r) 0 1 = (x, 1, 0) := by
  unfold getS
  rw [if_neg (by simp [show wOk 1 = true from by decide]; omega), if_neg (by simp; omega)]
  simp [num]
theorem getS_nilZ : getS [] 0 1 = (0, 0, 10) := by decide
set_option maxHeartbeats 1000000 in
theorem zparse_any (A : Option Addr) (n c : Nat) (l : List Nat) (w : World) (hL : Laid w) (hb : By w A n c l) (hn : n ≤ 140737488355000) :
    Calls Tryd.prog 8 #[.slice A n c] w fun e w' => ∃ A' N' c', e = .returned (.tuple #[.int .i64 ((paZ l).1 : Nat), .slice A' N' c', .int .i64 (paZ l).2.2]) ∧ By w' A' N' c' (paZ l).2.1 ∧ Ext w w' := by
  have hg := get_by A l n c 0 1 w hL hb (by omega)
  have HB := Lib.hid hb
  have hlen := hb.len
  cases l with
  | nil =>
    rw [getS_nilZ] at hg
    have HG := Lib.hid hg
    clear hL hb hg hlen
    go_enter Tryd.func8, Tryd.ntmps8
    go_wp2_with fail
    refine HG.out.mono ?_
    rintro e w1 ⟨rfl, hx⟩
    have HX := Lib.hid hx
    clear hx
    go_wp2_with fail
    refine bodyPost_ret (v := .tuple #[.int .i64 0, .slice none 0 0, .int .i64 120]) (by simp [results, Tryd.results8, go_sem]) rfl ?_
    exact ⟨none, 0, 0, rfl, By.nil_ _, HX.out⟩
  | cons x r =>
    rw [getS_cons] at hg
    have HG := Lib.hid hg
    have e : paZ (x :: r) = if 1 ≤ x ∧ x ≤ 8 ∧ r.length ≤ 80 then (x, r, 0) else (0, [], 120) := rfl
    rw [e]
    rw [List.length_cons] at hlen
    have hx9 : x < 256 := hb.rd.lt x (List.mem_cons_self ..)
    clear hL hb hg e
    cases hin : inZ 1 (x : Int) 8 with
    | false =>
      have hno : ¬ (1 ≤ x ∧ x ≤ 8 ∧ r.length ≤ 80) := fun h => by
        have := inZ_iff.2 (show (1 : Int) ≤ (x : Int) ∧ (x : Int) ≤ 8 by omega)
        rw [hin] at this
        cases this
      rw [if_neg hno]
      have HIN := Lib.hid hin
      clear hno hin hlen
      go_enter Tryd.func8, Tryd.ntmps8
      go_wp2_with fail
      refine HG.out.mono ?_
      rintro e w1 ⟨rfl, hx⟩
      have HX := Lib.hid hx
      clear hx
      go_wp2_with fail
      refine (zcount_of _ _).mono ?_
      rw [HIN.out]
      rintro e w2 ⟨rfl, rfl⟩
      go_wp2_with fail
      refine bodyPost_ret (v := .tuple #[.int .i64 0, .slice none 0 0, .int .i64 120]) (by simp [results, Tryd.results8, go_sem]) rfl ?_
      exact ⟨none, 0, 0, rfl, By.nil_ _, HX.out⟩
    | true =>
      have hx8 := inZ_iff.1 hin
      have HIN := Lib.hid hin
      clear hin
      by_cases h80 : 81 < n
      · rw [if_neg (by omega)]
        clear hlen hx8
        go_enter Tryd.func8, Tryd.ntmps8
        go_wp2_with fail
        refine HG.out.mono ?_
        rintro e w1 ⟨rfl, hx⟩
        have HX := Lib.hid hx
        clear hx
        go_wp2_with fail
        refine (zcount_of _ _).mono ?_
        rw [HIN.out]
        rintro e w2 ⟨rfl, rfl⟩
        go_wp2_with fail
        refine bodyPost_ret (v := .tuple #[.int .i64 0, .slice none 0 0, .int .i64 120]) (by simp [results, Tryd.results8, go_sem]) rfl ?_
        exact ⟨none, 0, 0, rfl, By.nil_ _, HX.out⟩
      · rw [if_pos (by omega)]
        have hcut := fun W => zcut_one A n c (by omega) W
        have hn1 : 1 ≤ n := by omega
        clear hlen hx8
        go_enter Tryd.func8, Tryd.ntmps8
        go_wp2_with fail
        refine HG.out.mono ?_
        rintro e w1 ⟨rfl, hx⟩
        have HX := Lib.hid hx
        have HB1 := Lib.hid (By.tail1 (HB.out.ext hx))
        clear hx
        go_wp2_with fail
        refine (zcount_of _ _).mono ?_
        rw [HIN.out]
        rintro e w2 ⟨rfl, rfl⟩
        go_wp2_with fail
        refine (sclone_by _ _ _ _ _ HB1.out (by omega)).mono ?_
        rintro e w3 ⟨A', c', rfl, hby, hx, _⟩
        have HX3 := Lib.hid (HX.out.trans hx)
        have HBY := Lib.hid hby
        clear hby hx
        go_wp2_with fail
        refine bodyPost_ret (v := .tuple #[.int .i64 (x : Int), .slice A' (n - 1) c', .int .i64 0]) (by simp [results, Tryd.results8, go_sem]) rfl ?_
        exact ⟨A', n - 1, c', rfl, HBY.out, HX3.out⟩
end
section
structure DM where
  rest : List (List Nat)
  meant : List (List Nat)
  lost : List Bool
  waits : List (Nat × List Nat) := []
  down : Bool := false
  dead : Bool := false
  power : Int := -1
def kept : List (Nat × List Nat) → List Bool → List (Nat × List Nat)
  | x :: l, true :: k => x :: kept l k
  | _ :: l, false :: k => kept l k
  | _, _ => []
end
section
set_option maxRecDepth 100000
end
section
open Go
def wth : Nat → Nat
  | 0 => 1
  | 1 => 1
  | 2 => 1
  | _ => 6
def pre (f : Nat → Nat) : Nat → List Nat
  | 0 => []
  | k + 1 => pre f k ++ digs (wth k) (f k)
def pos : Nat → Nat
  | 0 => 0
  | 1 => 1
  | 2 => 2
  | 3 => 3
  | 4 => 9
  | _ => 15
end
section
set_option maxRecDepth 100000
end
section
open Go Go.RowKit
structure Mod (F : Nat → Prop) (w w' : World) : Prop where
  os : w'.os = w.os
  tape : w'.tape = w.tape
  output : w'.output = w.output
  size : w.heap.size ≤ w'.heap.size
  block : ∀ k, k < w.heap.size → ¬ F k → w'.heap[k]? = w.heap[k]?
section
variable {F G : Nat → Prop} {a b c w w' : World}
theorem Mod.refl (F : Nat → Prop) (w : World) : Mod F w w := ⟨rfl, rfl, rfl, Nat.le_refl _, fun _ _ _ => rfl⟩
theorem Mod.trans (h : Mod F a b) (k : Mod G b c) (hG : ∀ i, G i → F i ∨ a.heap.size ≤ i) : Mod F a c :=
  ⟨k.os.trans h.os, k.tape.trans h.tape, k.output.trans h.output, Nat.le_trans h.size k.size, fun i hi hf =>
    (k.block i (Nat.lt_of_lt_of_le hi h.size) fun hg => (hG i hg).elim hf fun hl => absurd hi (by omega)).trans (h.block i hi hf)⟩
theorem Mod.of_ext (h : Ext w w') : Mod F w w' := ⟨h.os, h.tape, h.output, h.size, fun k hk _ => h.block k hk⟩
theorem Mod.setCell (h : Mod F a b) {p : Addr} (hp : F p.block ∨ a.heap.size ≤ p.block) (v : Value) : Mod F a (b.setCell p v) :=
  ⟨h.os, h.tape, h.output, Nat.le_trans h.size (by simp [World.setCell]), fun k hk hf => (Below.heap_setCell _ _ _ _ (fun e => by
    subst e
    exact hp.elim hf fun hl => absurd hk (by omega))).trans (h.block k hk hf)⟩
theorem Mod.grown {row : Option Nat} (h : Mod F a b) (hg : b.grownBy c row) (hr : ∀ k, row = some k → F k ∨ a.heap.size ≤ k) : Mod F a c :=
  ⟨hg.os.trans h.os, hg.tape.trans h.tape, hg.output.trans h.output, Nat.le_trans h.size hg.size, fun k hk hf =>
    (hg.block k (Nat.lt_of_lt_of_le hk h.size) (fun e => (hr k e.symm).elim hf fun hl => absurd hk (by omega))).trans (h.block k hk hf)⟩
def Off (F : Nat → Prop) (A : Option Addr) : Prop := ∀ p, A = some p → ¬ F p.block
theorem Bs.mod {B : Nat} {A : Option Addr} {n cp : Nat} {l : List Nat} (h : Bs w B A n cp l) (k : Mod F w w') (hB : B ≤ w.heap.size) (ho : Off F A) : Bs w' B A n cp l :=
  ⟨h.len, h.cap, h.most, ⟨h.rd.1, fun hn => by
    obtain ⟨g, o, e, hg, hc⟩ := h.rd.2 hn
    refine ⟨g, o, e, hg, fun j x hx => ?_⟩
    rw [← hc j x hx]
    exact World.cell?_of_block (a := ⟨g, o + j, none⟩) (k.block g (by omega) (ho _ e))⟩, h.nil_⟩
theorem By.mod {A : Option Addr} {n cp : Nat} {l : List Nat} (h : By w A n cp l) (k : Mod F w w') (ho : Off F A) : By w' A n cp l := (Bs.mod h k (Nat.le_refl _) ho).more k.size
theorem heap_mod {g : Nat} {o : Obj} (h : w.heap[g]? = some o) (k : Mod F w w') (hg : ¬ F g) : w'.heap[g]? = some o := (k.block g (Array.getElem?_eq_some_iff.1 h).1 hg).trans h
theorem own_mod {base e size n : Nat} {v : Value} {xs : List Value} (h : w.ownsRow base e size v n xs) (k : Mod F w w') (hv : ∀ i, v.ownBlock = some i → ¬ F i) : w'.ownsRow base e size v n xs := by
  refine ⟨h.1, ?_⟩
  rcases h.2 with h0 | ⟨g, cap, cur, rfl, hb, hg, h1⟩
  · exact .inl h0
  · exact .inr ⟨g, cap, cur, rfl, hb, heap_mod hg k (hv g rfl), h1⟩
end
end
end Go.Proofs.YtnlappoocffcpaaDoor

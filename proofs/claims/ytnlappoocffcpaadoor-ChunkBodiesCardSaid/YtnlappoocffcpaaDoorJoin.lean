/-
  The contract of Join (and of the library's Grow and Concat at bytes, which it calls): new memory that holds the lists one behind the other.
-/
import Derived.Test.YtnlappoocffcpaaDoorProg
import Derived.Test.YtnlappoocffcpaaDoorMem
import Derived.Test.YtnlappoocffcpaaDoorCopy
import Derived.Lib.AppendZeros
import Derived.OwnWalk
import Derived.Outline
namespace Go.Proofs.YtnlappoocffcpaaDoor
set_option maxRecDepth 100000
open Go Go.RowKit

theorem size_zeroCells_one (n : Nat) (z : Value) : (Builtin.zeroCells #[z] n).size = n := by
  simp [Builtin.zeroCells]

set_option maxHeartbeats 800000 in
/-- slices.Grow of the nil slice of bytes. -/
theorem grow_nil (n : Nat) (w : World) (hn : n ≤ 140737488355328) :
    Calls Tryd.prog 30 #[.slice none 0 0, .int .i64 n] w fun e w' => ∃ v, e = .returned v ∧ w'.ownsRow w.heap.size 5 1 v 0 [] ∧ Below w.heap.size w w' := by
  obtain ⟨i0, hi, hz0, hz1, hz2⟩ := info_parts byte_info
  by_cases h0 : n = 0
  · subst h0
    go_enter Tryd.func30, Tryd.ntmps30
    go_wp2_with fail
    go_ret
    exact ⟨_, rfl, World.ownsRow_nil _ _ _ _, Below.refl _ _⟩
  · have hrun := fun ty => Lib.run_append_nil_zeros (P := Tryd.prog) w 22 3 ty 5 i0 (.int .u8 0) .i64 .i64 Tryd.underlying22 Tryd.underlying3 hi hz0 n (by omega) (by omega) (by omega) (by rw [hz2]; omega)
    have HR := Lib.hid hrun
    clear hrun
    have hcap := grownCap_le_maxLen w n 0 5 (by unfold maxLen; omega)
    have hge := grownCap_ge w n 0 5
    have hcs : (Builtin.zeroCells (Value.int .u8 0).cells n ++ Builtin.zeroCells (Value.int .u8 0).cells (grownCap w n 0 5 - n)).size = grownCap w n 0 5 * 1 := by
      have e : (Value.int IntKind.u8 0).cells = #[Value.int .u8 0] := rfl
      rw [e, Array.size_append, size_zeroCells_one, size_zeroCells_one]
      omega
    have HC := Lib.hid hcs
    clear hcs
    have hmx := hcap
    unfold maxLen at hmx
    generalize hgc : grownCap w n 0 5 = gc at *
    generalize hcells : (Builtin.zeroCells (Value.int .u8 0).cells n ++ Builtin.zeroCells (Value.int .u8 0).cells (gc - n)) = cells at *
    have HM := Lib.hid hcap
    clear hgc hcells hcap
    go_enter Tryd.func30, Tryd.ntmps30
    go_wp2_with (at_builtin; refine Lib.wpList_append_run _ rfl _ _ _ _ rfl _ _ rfl rfl _ _ (HR.out _) ?_)
    go_ret
    exact ⟨_, rfl, (World.ownsRow_made w cells gc (Nat.le_refl _) HM.out HC.out), ((Below.refl _ _).alloc (Nat.le_refl _) _).drew⟩

/-- The lists one behind the other. -/
def cat (ps : List (Value × List Nat)) : List Nat := ps.flatMap (·.2)
theorem cat_step {ps : List (Value × List Nat)} {k : Nat} {p : Value × List Nat} (h : ps[k]? = some p) : cat (ps.take (k + 1)) = cat (ps.take k) ++ p.2 := by
  unfold cat
  rw [List.take_add_one, h, Option.toList_some, List.flatMap_append]
  simp
theorem cat_take_le (ps : List (Value × List Nat)) (k : Nat) : (cat (ps.take k)).length ≤ (cat ps).length := by
  have e : cat ps = cat (ps.take k) ++ cat (ps.drop k) := by
    unfold cat
    rw [← List.flatMap_append, List.take_append_drop]
  rw [e, List.length_append]
  omega
/-- A row of slices of bytes, as Join takes it. -/
structure Parts (w : World) (B : Nat) (G : Option Addr) (m : Nat) (ps : List (Value × List Nat)) : Prop where
  len : ps.length = m
  at_ : 0 < m → ∃ g o, G = some ⟨g, o, none⟩ ∧ g < B ∧ ∀ j p, ps[j]? = some p → w.cell? ⟨g, o + j, none⟩ = some p.1
  each : ∀ p ∈ ps, ∃ A n c, p.1 = .slice A n c ∧ Bs w B A n c p.2
theorem Parts.below {w w' : World} {B : Nat} {G : Option Addr} {m : Nat} {ps : List (Value × List Nat)} (h : Parts w B G m ps) (hb : Below B w w') : Parts w' B G m ps := by
  refine ⟨h.len, fun hm => ?_, fun p hp => ?_⟩
  · obtain ⟨g, o, e, hg, hc⟩ := h.at_ hm
    exact ⟨g, o, e, hg, fun j p hp => (hb.cell (p := ⟨g, o + j, none⟩) hg).trans (hc j p hp)⟩
  · obtain ⟨A, n, c, e, hbs⟩ := h.each p hp
    exact ⟨A, n, c, e, hbs.below hb⟩
theorem Parts.get {w : World} {B : Nat} {G : Option Addr} {m : Nat} {ps : List (Value × List Nat)} (h : Parts w B G m ps) {k : Nat} (hk : k < m) :
    ∃ g o A n c l, G = some ⟨g, o, none⟩ ∧ g < B ∧ ps[k]? = some (.slice A n c, l) ∧ w.cell? ⟨g, o + k, none⟩ = some (.slice A n c) ∧ Bs w B A n c l := by
  obtain ⟨g, o, e, hg, hc⟩ := h.at_ (by omega)
  have hk' : k < ps.length := by rw [h.len]; exact hk
  obtain ⟨A, n, c, e1, hbs⟩ := h.each ps[k] (List.getElem_mem hk')
  have hp : ps[k]? = some (.slice A n c, ps[k].2) := by rw [List.getElem?_eq_getElem hk', ← e1]
  exact ⟨g, o, A, n, c, ps[k].2, e, hg, hp, hc k _ hp, hbs⟩
theorem cat_len_step {ps : List (Value × List Nat)} {k n : Nat} {v : Value} {l : List Nat} (h : ps[k]? = some (v, l)) (hl : l.length = n) : (cat (ps.take (k + 1))).length = (cat (ps.take k)).length + n := by
  rw [cat_step h, List.length_append, hl]

theorem concat_step {w wr w1 : World} {ps : List (Value × List Nat)} {k n : Nat} {v v1 u : Value} {l : List Nat} (hp : ps[k]? = some (u, l)) (hl : l.length = n)
    (hown : wr.ownsRow w.heap.size 5 1 v (cat (ps.take k)).length (vb (cat (ps.take k)))) (hbel : Below w.heap.size w wr)
    (hown1 : w1.ownsRow w.heap.size 5 1 v1 ((cat (ps.take k)).length + n) (vb (cat (ps.take k)) ++ vb l)) (hg : wr.grownBy w1 v.ownBlock) :
    w1.ownsRow w.heap.size 5 1 v1 (cat (ps.take (k + 1))).length (vb (cat (ps.take (k + 1)))) ∧ Below w.heap.size w w1 := by
  refine ⟨?_, ?_⟩
  · rw [cat_len_step hp hl, cat_step hp, vb_append]
    exact hown1
  · refine hbel.grown hg hbel.size ?_
    intro g hg'
    exact (hown.lt g hg').1

set_option maxHeartbeats 2000000 in
theorem concat_any (G : Option Addr) (m c : Nat) (ps : List (Value × List Nat)) (w : World) (hp : Parts w w.heap.size G m ps) (hm : m ≤ 9000000000000000000) (ht : (cat ps).length ≤ 140737488355328) :
    Calls Tryd.prog 23 #[.slice G m c] w fun e w' => ∃ A' c', e = .returned (.slice A' (cat ps).length c') ∧ w'.ownsRow w.heap.size 5 1 (.slice A' (cat ps).length c') (cat ps).length (vb (cat ps)) ∧ Below w.heap.size w w' := by
  obtain ⟨i0, hi, hz0, hz1, hz2⟩ := info_parts byte_info
  have HP := Lib.hid hp
  clear hp
  go_enter Tryd.func23, Tryd.ntmps23
  go_wp2_with fail
  go_loop [3, 11] (fun s i => ∃ k : Nat, k ≤ m ∧ i = .int .i64 k ∧ s = .int .i64 (((cat (ps.take k)).length : Nat) : Int)) (fun _ i => m - (intOf i).toNat)
  case atStart => exact ⟨0, Nat.zero_le _, rfl, rfl⟩
  case round =>
    obtain ⟨k, hk, rfl, rfl⟩ := hrel
    by_cases hlt : k < m
    · obtain ⟨g, o, A, n, c1, l, hG, _, hpk, hcell, hbs⟩ := HP.out.get hlt
      subst hG
      have HS := Lib.hid (cat_len_step hpk hbs.len)
      have hle : (cat (ps.take (k + 1))).length ≤ (cat ps).length := cat_take_le ps (k + 1)
      rw [HS.out] at hle
      clear hpk hbs
      generalize hsn : (cat (ps.take k)).length = sn at *
      clear hsn
      go_wp2_with fail
      go_round
      case rel => exact ⟨k + 1, by omega, by go_num, by rw [HS.out]; go_num⟩
      case measure => simp [intOf]; omega
    · have HK : Hid (k = m) := Lib.hid (by omega)
      have e0 : cat (ps.take k) = cat ps := by rw [HK.out, List.take_of_length_le (by rw [HP.out.len]; exact Nat.le_refl _)]
      rw [e0]
      clear e0
      go_wp2_with fail
      refine (grow_nil (cat ps).length _ ht).mono ?_
      rintro e w1 ⟨v1, rfl, hown1, hbel1⟩
      have HO1 := Lib.hid hown1
      have HB1 := Lib.hid hbel1
      clear hown1 hbel1 HK
      go_wp2_with fail
      go_loopw [6, 27] (fun v i wr => ∃ k : Nat, k ≤ m ∧ i = .int .i64 k ∧ Hid (wr.ownsRow w.heap.size 5 1 v (cat (ps.take k)).length (vb (cat (ps.take k)))) ∧ Hid (Below w.heap.size w wr)) (fun _ i _ => m - (intOf i).toNat)
      case atStart => exact ⟨0, Nat.zero_le _, rfl, HO1, HB1⟩
      case round =>
        obtain ⟨k, hk, rfl, HO, HB⟩ := hrel
        by_cases hlt : k < m
        · obtain ⟨g, o, A, n, c1, l, hG, _, hpk, hcell, hbs⟩ := (HP.out.below HB.out).get hlt
          subst hG
          have HBS := Lib.hid hbs
          have HPK := Lib.hid hpk
          have hle : (cat (ps.take (k + 1))).length ≤ (cat ps).length := cat_take_le ps (k + 1)
          rw [cat_len_step hpk hbs.len] at hle
          have hsz := HB.out.size
          clear hpk hbs
          rcases A with _ | ad
          · have hc0 : c1 = 0 := HBS.out.nil_ rfl
            subst hc0
            have hn0 : n = 0 := by have := HBS.out.cap; omega
            subst hn0
            have hl0 : l = [] := List.eq_nil_of_length_eq_zero HBS.out.len
            subst hl0
            go_wp2_with (at_builtin; refine wpList_append_own_none rfl _ _ 22 rfl w.heap.size 5 i0 1 Tryd.underlying22 hi _ _ _ rfl HO.out rfl ?_)
            go_roundw
            case rel => exact ⟨k + 1, by omega, by go_num, Lib.hid (by have h := HO.out; rw [cat_step HPK.out]; simpa using h), HB⟩
            case measure => simp [intOf]; omega
          · go_wp2_with (at_builtin; refine wpList_append_own _ rfl _ _ 22 rfl w.heap.size 5 i0 (.int .u8 0) 1 1 Tryd.underlying22 hi hz0 hz1 hz2 rfl (by decide) _ _ _ rfl HO.out ad n c1 (vb l) rfl ?c1 ?c2 ?c3 ?c4 ?c5 ?c6 ?_)
            case c1 => rw [vb_length, HBS.out.len]; omega
            case c2 =>
              intro j u hj
              rw [vb_get] at hj
              obtain ⟨x, hx, rfl⟩ := Option.map_eq_some_iff.1 hj
              have hjl : j < l.length := (List.getElem?_eq_some_iff.1 hx).1
              obtain ⟨g', o', y, hA, _, hy, _, hc⟩ := HBS.out.rd.at_ hjl
              injection hA with hA
              subst hA
              rw [hx] at hy
              injection hy with hy
              subst hy
              rw [Addr.add_lit, hc]
            case c3 => exact vb_one l
            case c4 => unfold maxLen; omega
            case c5 => omega
            case c6 => exact hsz
            intro v2 w2 hown hg _
            have R := concat_step HPK.out HBS.out.len HO.out HB.out hown hg
            have HO2 := Lib.hid R.1
            have HB2 := Lib.hid R.2
            clear hown hg R
            go_wp2_with fail
            go_roundw
            case rel => exact ⟨k + 1, by omega, by go_num, HO2, HB2⟩
            case measure => simp [intOf]; omega
        · have HK : Hid (k = m) := Lib.hid (by omega)
          have e0 : cat (ps.take k) = cat ps := by rw [HK.out, List.take_of_length_le (by rw [HP.out.len]; exact Nat.le_refl _)]
          have h1 := HO.out
          rw [e0] at h1
          obtain ⟨A', c', hv, _, _⟩ := own_form h1
          subst hv
          have HO3 := Lib.hid h1
          clear h1 e0
          go_wp2_with fail
          go_ret
          exact ⟨A', c', rfl, HO3.out, HB.out⟩

theorem join_any (G : Option Addr) (m c : Nat) (ps : List (Value × List Nat)) (w : World) (hp : Parts w w.heap.size G m ps) (hm : m ≤ 9000000000000000000) (ht : (cat ps).length ≤ 140737488355328) :
    Calls Tryd.prog 14 #[.slice G m c] w fun e w' => ∃ A' c', e = .returned (.slice A' (cat ps).length c') ∧ w'.ownsRow w.heap.size 5 1 (.slice A' (cat ps).length c') (cat ps).length (vb (cat ps)) ∧ Below w.heap.size w w' := by
  have HP := Lib.hid hp
  clear hp
  go_enter Tryd.func14, Tryd.ntmps14
  go_wp2_with fail
  refine (concat_any _ _ _ ps _ HP.out hm ht).mono ?_
  rintro e w1 ⟨A', c', rfl, hown, hbel⟩
  have HO := Lib.hid hown
  have HB := Lib.hid hbel
  clear hown hbel
  go_wp2_with fail
  go_ret
  exact ⟨A', c', rfl, HO.out, HB.out⟩
end Go.Proofs.YtnlappoocffcpaaDoor

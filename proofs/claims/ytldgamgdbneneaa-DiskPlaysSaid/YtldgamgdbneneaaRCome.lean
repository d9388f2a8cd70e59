/-
  The document's disk: a write comes through; the calls that carry writes out.
-/
import Derived.Test.YtldgamgdbneneaaRDisk
import Derived.Deep.RegionHeld3
namespace Go.Proofs.Ytldgamgdbneneaa
open Go Go.RowKit

theorem cell_far {w : World} {g h i j : Nat} {v u : Value} (hne : h ≠ g) (hc : w.cell? ⟨h, i, none⟩ = some u) : (w.setCell ⟨g, j, none⟩ v).cell? ⟨h, i, none⟩ = some u := by
  rw [World.cell?_setCell_far _ _ _ _ (by simpa using fun e => hne e.symm)]
  exact hc
theorem keepA {u w' : World} {a b i j k : Nat} {x y z : Value} (e : Hid (Ext u w')) (h : Hid (u.cell? ⟨a, i, none⟩ = some x ∧ u.cell? ⟨b, j, none⟩ = some y ∧ u.cell? ⟨b, k, none⟩ = some z)) : w'.cell? ⟨a, i, none⟩ = some x ∧ w'.cell? ⟨b, j, none⟩ = some y ∧ w'.cell? ⟨b, k, none⟩ = some z :=
  ⟨(Below.cell e.out (p := ⟨a, i, none⟩) (World.block_lt_of_cell? u _ h.out.1)).trans h.out.1, (Below.cell e.out (p := ⟨b, j, none⟩) (World.block_lt_of_cell? u _ h.out.2.1)).trans h.out.2.1, (Below.cell e.out (p := ⟨b, k, none⟩) (World.block_lt_of_cell? u _ h.out.2.2)).trans h.out.2.2⟩
theorem keepB {u w' : World} {a b i j k g s : Nat} {x y z v : Value} (e : Hid (Ext u w')) (hg : Hid (a ≠ g ∧ b ≠ g)) (h : Hid (u.cell? ⟨a, i, none⟩ = some x ∧ u.cell? ⟨b, j, none⟩ = some y ∧ u.cell? ⟨b, k, none⟩ = some z)) :
    (w'.setCell ⟨g, s, none⟩ v).cell? ⟨a, i, none⟩ = some x ∧ (w'.setCell ⟨g, s, none⟩ v).cell? ⟨b, j, none⟩ = some y ∧ (w'.setCell ⟨g, s, none⟩ v).cell? ⟨b, k, none⟩ = some z :=
  ⟨cell_far hg.out.1 (keepA e h).1, cell_far hg.out.2 (keepA e h).2.1, cell_far hg.out.2 (keepA e h).2.2⟩
/-- A fresh row of 64 bytes, as a block and its room. -/
theorem fresh_byt {w w' : World} {A : Option Addr} {c : Nat} {b : List Nat} (h : w'.ownsRow w.heap.size 5 1 (.slice A 64 c) 64 (vb b)) : ∃ g, A = some ⟨g, 0, none⟩ ∧ w.heap.size ≤ g ∧ g < w'.heap.size ∧ Byt w' (g, c) b := by
  rcases h.2 with ⟨_, h0⟩ | ⟨g, cap, cur, hv, hb, hg, rest⟩
  · cases h0
  · injection hv with e1 _ e3
    subst e1; subst e3
    exact ⟨g, rfl, hb, (Array.getElem?_eq_some_iff.1 hg).1, h.1, .inr ⟨g, c, cur, rfl, Nat.zero_le _, hg, rest⟩⟩
theorem RDq.restAt {w : World} {d : Nat} {p : Nat → Nat} {q : Nm} {m : DM} (h : RDq w d p q m) {s : Nat} (hs : s < m.size) : ∃ x, q.RB[s]? = some x ∧ w.cell? ⟨q.gr, s, none⟩ = some (slV x) ∧ w.frozen? ⟨q.gr, s, none⟩ = false ∧ q.gr < w.heap.size := by
  have hl : q.RB.length = m.size := by have := h.rr.1; rw [List.length_map] at this; omega
  obtain ⟨x, hx⟩ : ∃ x, q.RB[s]? = some x := ⟨_, List.getElem?_eq_getElem (by omega)⟩
  exact ⟨x, hx, by rw [h.rr.cellAt s (by omega), List.getElem?_map, hx]; rfl, h.rr.frozenAt s, h.lts.2.1⟩
theorem RDq.meantAt {w : World} {d : Nat} {p : Nat → Nat} {q : Nm} {m : DM} (h : RDq w d p q m) {s : Nat} (hs : s < m.size) : ∃ x, q.MB[s]? = some x ∧ w.cell? ⟨q.gm, s, none⟩ = some (slV x) ∧ w.frozen? ⟨q.gm, s, none⟩ = false ∧ q.gm < w.heap.size := by
  have hl : q.MB.length = m.size := by have := h.rm.1; rw [List.length_map] at this; omega
  obtain ⟨x, hx⟩ : ∃ x, q.MB[s]? = some x := ⟨_, List.getElem?_eq_getElem (by omega)⟩
  exact ⟨x, hx, by rw [h.rm.cellAt s (by omega), List.getElem?_map, hx]; rfl, h.rm.frozenAt s, h.lts.2.2.1⟩
theorem RDq.lostAt {w : World} {d : Nat} {p : Nat → Nat} {q : Nm} {m : DM} (h : RDq w d p q m) {s : Nat} (hs : s < m.size) : w.cell? ⟨q.gl, s, none⟩ = some (.bool (m.lost.getD s false)) ∧ w.frozen? ⟨q.gl, s, none⟩ = false ∧ q.gl < w.heap.size := by
  have hl := h.ok.lost
  refine ⟨?_, h.rl.frozenAt s, h.lts.2.2.2⟩
  rw [h.rl.cellAt s (by omega), List.getElem?_map, List.getElem?_eq_getElem (by omega), List.getD_eq_getElem?_getD, List.getElem?_eq_getElem (by omega)]
  rfl
/-- A new block's part. -/
def part (p : Nat → Nat) (b r : Nat) : Nat → Nat := fun k => if k = b then r else p k
theorem part_at (p : Nat → Nat) (b r : Nat) : part p b r b = r := if_pos rfl
theorem part_old {p : Nat → Nat} {b r n : Nat} (h : n ≤ b) : ∀ k, k < n → part p b r k = p k := fun k hk => if_neg (by omega)
theorem part_nz {p : Nat → Nat} {b r k : Nat} (h : part p b r k ≠ 0) : k = b ∨ p k ≠ 0 := by
  unfold part at h
  split at h
  · exact .inl (by assumption)
  · exact .inr h

set_option maxRecDepth 100000 in
set_option maxHeartbeats 2400000 in
theorem rcome_of {w : World} {d : Nat} {p : Nat → Nat} {m : DM} (h : RD w d p m) (s : Nat) (hs : s < m.size) (A : Option Addr) (c : Nat) (b : List Nat) (hb : By w A 64 c b) (hsb : Sect b) (ho : Off (fun i => p i = 2 ∨ p i = 3 ∨ p i = 4) A) :
    Calls Try.prog 44 #[.pointer (some ⟨d, 0, none⟩), .agg #[.int .i64 (s : Int), .slice A 64 c]] w fun e w' => (∃ v, e = .returned v) ∧ ROut d p w (m.come (s, b)) w' := by
  obtain ⟨⟨q, hq⟩, hlt⟩ := h
  obtain ⟨l1, l2, l3, l4⟩ := hq.lts
  have hE : Ext w (w.alloc (.cells #[.int .i64 (s : Int), .slice A 64 c] 81)) := (Ext.refl w).alloc _
  have hZ := heap_alloc_new w (.cells #[.int .i64 (s : Int), .slice A 64 c] 81)
  obtain ⟨V, hV⟩ : ∃ V, w.alloc (.cells #[.int .i64 (s : Int), .slice A 64 c] 81) = V := ⟨_, rfl⟩
  rw [hV] at hE hZ
  have HE := Lib.hid hE
  have HQ := Lib.hid (hq.ext hE)
  have HB := Lib.hid (hb.ext hE)
  have HLT := Lib.hid hlt
  have HO := Lib.hid ho
  have HSB := Lib.hid hsb
  have hsz : m.size ≤ 1024 := hq.head.n1.2
  have n1 : d ≠ q.gr ∧ w.heap.size ≠ q.gr := ⟨fun e => by have a := hq.pd; have b := hq.pr; rw [e] at a; omega, by omega⟩
  have n2 : d ≠ q.gm ∧ w.heap.size ≠ q.gm := ⟨fun e => by have a := hq.pd; have b := hq.pm; rw [e] at a; omega, by omega⟩
  have n3 : d ≠ q.gl ∧ w.heap.size ≠ q.gl := ⟨fun e => by have a := hq.pd; have b := hq.pl; rw [e] at a; omega, by omega⟩
  have N1 := Lib.hid n1
  have N2 := Lib.hid n2
  have N3 := Lib.hid n3
  have hc0 := cell_of_row V w.heap.size 0 _ _ _ hZ
  have hc1 := cell_of_row V w.heap.size 1 _ _ _ hZ
  obtain ⟨⟨d0, d1, d2, _⟩, _⟩ := HQ.out.head.cells
  have HS1 : Hid (V.drew.cell? ⟨d, 0, none⟩ = some (.slice (some ⟨q.gr, 0, none⟩) m.size q.cr) ∧ V.drew.cell? ⟨w.heap.size, 0, none⟩ = some (.int .i64 (s : Int)) ∧ V.drew.cell? ⟨w.heap.size, 1, none⟩ = some (.slice A 64 c)) := Lib.hid ⟨d0, hc0, hc1⟩
  have HZ := Lib.hid hZ
  have HVR : Hid (Ext V.drew V.drew) := Lib.hid (Ext.refl _)
  have i0 : (0 : Int) ≤ (s : Int) := by omega
  have i1 : (s : Int) < (m.size : Int) := by omega
  have HQd := Lib.hid (HQ.out.ext (Ext.refl V).drew)
  have HBd : Hid (By V.drew A 64 c b) := Lib.hid (HB.out.ext (Ext.refl V).drew)
  clear hq hb hsb hlt n1 n2 n3 hE hZ ho
  go_enter Try.func44, Try.ntmps44
  go_wp2_with fail
  go_region_held3 (fun w' => w'.cell? ⟨d, 0, none⟩ = some (.slice (some ⟨q.gr, 0, none⟩) m.size q.cr) ∧ w'.cell? ⟨w.heap.size, 0, none⟩ = some (.int .i64 (s : Int)) ∧ w'.cell? ⟨w.heap.size, 1, none⟩ = some (.slice A 64 c))
    (first | exact keepA (by assumption) HS1 | exact keepB (by assumption) N1 HS1)
    (first
      | (go_at_call 42; ((with_reducible refine (copy_by A b 64 c _ HBd.out (by omega)).mono ?_); rintro e w2 ⟨A1, c1, rfl, _, hx, ho⟩; obtain ⟨b1, rfl, g1, g2, hb1⟩ := fresh_byt ho; have HK1 := Lib.hid hx; have HY1 := Lib.hid hb1; obtain ⟨x1, _, hc1, hf1, hl1⟩ := (HQd.out.ext hx).restAt hs; clear hx ho hb1)))
  have hVs : V.heap.size = w.heap.size + 1 := by rw [← hV]; simp
  have hQ1 : RDq (w2.setCell ⟨q.gr, s, none⟩ (slV (b1, c1))) d (part p b1 (7 + s)) { q with RB := q.RB.set s (b1, c1) } { m with rest := m.rest.set s b } := ((HQd.out.recast (p' := part p b1 (7 + s)) (part_old g1)).ext HK1.out).setRest hs HSB.out HY1.out (part_at _ _ _)
  have hB1 : By (w2.setCell ⟨q.gr, s, none⟩ (slV (b1, c1))) A 64 c b := (HBd.out.ext HK1.out).mod (mod_one _ _ _ _) fun r hr e => HO.out r hr (.inl (by rw [e]; exact HQ.out.pr))
  have hZ1 : (w2.setCell ⟨q.gr, s, none⟩ (slV (b1, c1))).heap[w.heap.size]? = _ := heap_set (g := q.gr) (k := s) (x := slV (b1, c1)) N1.out.2 ((HK1.out.block _ (show w.heap.size < V.drew.heap.size by show _ < V.heap.size; omega)).trans HZ.out)
  have hM1 : Mod (fun k => p k ≠ 0) w (w2.setCell ⟨q.gr, s, none⟩ (slV (b1, c1))) := ((Mod.of_ext ((HE.out.trans (Ext.refl V).drew).trans HK1.out)).trans (mod_one w2 q.gr s (slV (b1, c1))) fun i hi => .inl (by rw [hi, HQ.out.pr]; omega))
  have hb1 : w.heap.size ≤ b1 ∧ b1 < (w2.setCell ⟨q.gr, s, none⟩ (slV (b1, c1))).heap.size := ⟨by have : V.drew.heap.size = V.heap.size := rfl; omega, by simpa [World.setCell] using g2⟩
  rw [show Value.slice (some ⟨b1, 0, none⟩) 64 c1 = slV (b1, c1) from rfl]
  obtain ⟨X1, hX1⟩ : ∃ X, w2.setCell ⟨q.gr, s, none⟩ (slV (b1, c1)) = X := ⟨_, rfl⟩
  rw [hX1] at hQ1 hB1 hZ1 hM1 hb1
  rw [hX1]
  have HQ1 := Lib.hid (hQ1.ext (Ext.refl X1).drew)
  have HB1 := Lib.hid (hB1.ext (Ext.refl X1).drew)
  have HZ1 := Lib.hid hZ1
  have HM1 := Lib.hid hM1
  have HN1 := Lib.hid hb1
  obtain ⟨⟨d0, d1, d2, _⟩, _⟩ := hQ1.head.cells
  have hc0 := cell_of_row X1 w.heap.size 0 _ _ _ hZ1
  have hc1 := cell_of_row X1 w.heap.size 1 _ _ _ hZ1
  have HS2 : Hid (X1.drew.cell? ⟨d, 1, none⟩ = some (.slice (some ⟨q.gm, 0, none⟩) m.size q.cm) ∧ X1.drew.cell? ⟨w.heap.size, 0, none⟩ = some (.int .i64 (s : Int)) ∧ X1.drew.cell? ⟨w.heap.size, 1, none⟩ = some (.slice A 64 c)) := Lib.hid ⟨by have := d1; simp only [DM.size, List.length_set] at this ⊢; exact this, hc0, hc1⟩
  have HVR2 : Hid (Ext X1.drew X1.drew) := Lib.hid (Ext.refl _)
  clear hQ1 hB1 hZ1 hM1 hb1 HS1 HVR HQd HBd hX1 HK1 HY1 g1 g2 hf1 hl1 hc1 hc0 d0 d1 d2
  go_wp2_with fail
  go_region_held3 (fun w' => w'.cell? ⟨d, 1, none⟩ = some (.slice (some ⟨q.gm, 0, none⟩) m.size q.cm) ∧ w'.cell? ⟨w.heap.size, 0, none⟩ = some (.int .i64 (s : Int)) ∧ w'.cell? ⟨w.heap.size, 1, none⟩ = some (.slice A 64 c))
    (first | exact keepA (by assumption) HS2 | exact keepB (by assumption) N2 HS2)
    (first
      | (go_at_call 42; ((with_reducible refine (copy_by A b 64 c _ HB1.out (by omega)).mono ?_); rintro e w4 ⟨A2, c2, rfl, _, hx, ho⟩; obtain ⟨b2, rfl, g1, g2, hb2⟩ := fresh_byt ho; have HK2 := Lib.hid hx; have HY2 := Lib.hid hb2; obtain ⟨x2, _, hc2, hf2, hl2⟩ := (HQ1.out.ext hx).meantAt (s := s) (by simp only [DM.size, List.length_set]; exact hs); clear hx ho hb2)))
  have hQ2 : RDq (w4.setCell ⟨q.gm, s, none⟩ (slV (b2, c2))) d (part (part p b1 (7 + s)) b2 6) { q with RB := q.RB.set s (b1, c1), MB := q.MB.set s (b2, c2) } { m with rest := m.rest.set s b, meant := m.meant.set s b } := ((HQ1.out.recast (p' := part (part p b1 (7 + s)) b2 6) (part_old g1)).ext HK2.out).setMeant (by simp only [DM.size, List.length_set]; exact hs) HSB.out HY2.out (part_at _ _ _)
  have hZ2 : (w4.setCell ⟨q.gm, s, none⟩ (slV (b2, c2))).heap[w.heap.size]? = _ := heap_set (g := q.gm) (k := s) (x := slV (b2, c2)) N2.out.2 ((HK2.out.block _ (show w.heap.size < X1.drew.heap.size from (Array.getElem?_eq_some_iff.1 HZ1.out).1)).trans HZ1.out)
  have hM2 : Mod (fun k => p k ≠ 0) w (w4.setCell ⟨q.gm, s, none⟩ (slV (b2, c2))) := ((HM1.out.ext ((Ext.refl X1).drew.trans HK2.out)).trans (mod_one w4 q.gm s (slV (b2, c2))) fun i hi => .inl (by rw [hi, HQ.out.pm]; omega))
  have hb2 : X1.heap.size ≤ b2 ∧ b2 < (w4.setCell ⟨q.gm, s, none⟩ (slV (b2, c2))).heap.size := ⟨g1, by simpa [World.setCell] using g2⟩
  have hsz2 : X1.heap.size ≤ (w4.setCell ⟨q.gm, s, none⟩ (slV (b2, c2))).heap.size := by have := HK2.out.size; simp [World.setCell]; exact this
  rw [show Value.slice (some ⟨b2, 0, none⟩) 64 c2 = slV (b2, c2) from rfl]
  obtain ⟨X2, hX2⟩ : ∃ X, w4.setCell ⟨q.gm, s, none⟩ (slV (b2, c2)) = X := ⟨_, rfl⟩
  rw [hX2] at hQ2 hZ2 hM2 hb2 hsz2
  rw [hX2]
  have HQ2 := Lib.hid hQ2
  have HM2 := Lib.hid hM2
  have HN2 := Lib.hid hb2
  have HZ2 := Lib.hid hZ2
  obtain ⟨⟨d0, d1, d2, _⟩, _⟩ := hQ2.head.cells
  have d2' : X2.cell? ⟨d, 2, none⟩ = some (.slice (some ⟨q.gl, 0, none⟩) m.size q.cl) := by have := d2; simp only [DM.size, List.length_set] at this ⊢; exact this
  have hc0 := cell_of_row X2 w.heap.size 0 _ _ _ hZ2
  obtain ⟨hcl, hfl, hll⟩ := hQ2.lostAt (s := s) (by simp only [DM.size, List.length_set]; exact hs)
  clear hQ2 hZ2 hM2 hb2 HS2 HVR2 HQ1 HB1 HZ1 HM1 hX2 HK2 HY2 g1 g2 hf2 hl2 hc2 d0 d1 d2
  go_wp2_with fail
  go_region
  go_end0
  have hM3 : Mod (fun k => p k ≠ 0) w (X2.setCell ⟨q.gl, s, none⟩ (.bool false)).drew := ((HM2.out.trans (mod_one X2 q.gl s (.bool false)) fun i hi => .inl (by rw [hi, HQ.out.pl]; omega))).drew
  have hs3 : (X2.setCell ⟨q.gl, s, none⟩ (.bool false)).drew.heap.size = X2.heap.size := by show (X2.setCell ⟨q.gl, s, none⟩ (.bool false)).heap.size = _; simp [World.setCell]
  refine ⟨⟨_, rfl⟩, part (part p b1 (7 + s)) b2 6, ⟨⟨_, (HQ2.out.setLost s false).ext (Ext.refl _).drew⟩, fun k hk => ?_⟩, hM3, fun k hk => ?_⟩
  · rw [hs3]
    rcases part_nz hk with rfl | hk
    · exact HN2.out.2
    · rcases part_nz hk with rfl | hk
      · exact Nat.lt_of_lt_of_le HN1.out.2 hsz2
      · exact Nat.lt_of_lt_of_le (HLT.out k hk) HM2.out.size
  · rcases part_nz hk with rfl | hk
    · exact .inr (Nat.le_trans (Nat.le_trans HN1.out.1 (Nat.le_of_lt HN1.out.2)) HN2.out.1)
    · rcases part_nz hk with rfl | hk
      · exact .inr HN1.out.1
      · exact .inl hk
end Go.Proofs.Ytldgamgdbneneaa

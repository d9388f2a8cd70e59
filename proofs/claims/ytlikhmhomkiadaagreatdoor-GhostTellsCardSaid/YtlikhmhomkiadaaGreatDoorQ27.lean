/-
  The document's disk: a write comes through; the calls that carry writes out.
  The document's disk: Start, SetPower, spend, Lose, Stray.
  The document's disk: At, Read.
-/
import Derived.Test.YtlikhmhomkiadaaGreatDoorQ26
import Derived.Deep.RegionHeld3
import Derived.Deep.RegionWith
namespace Go.Proofs.YtlikhmhomkiadaaGreatDoor
set_option maxRecDepth 100000
open Go Go.RowKit

theorem cell_far {w : World} {g h i j : Nat} {v u : Value} (hne : h ≠ g) (hc : w.cell? ⟨h, i, none⟩ = some u) : (w.setCell ⟨g, j, none⟩ v).cell? ⟨h, i, none⟩ = some u := by
  rw [World.cell?_setCell_far _ _ _ _ (by simpa using fun e => hne e.symm)]
  exact hc
theorem keepA {u w' : World} {a b i j k : Nat} {x y z : Value} (e : Hid (Ext u w')) (h : Hid (u.cell? ⟨a, i, none⟩ = some x ∧ u.cell? ⟨b, j, none⟩ = some y ∧ u.cell? ⟨b, k, none⟩ = some z)) : w'.cell? ⟨a, i, none⟩ = some x ∧ w'.cell? ⟨b, j, none⟩ = some y ∧ w'.cell? ⟨b, k, none⟩ = some z :=
  ⟨(Below.cell e.out (p := ⟨a, i, none⟩) (World.block_lt_of_cell? u _ h.out.1)).trans h.out.1, (Below.cell e.out (p := ⟨b, j, none⟩) (World.block_lt_of_cell? u _ h.out.2.1)).trans h.out.2.1, (Below.cell e.out (p := ⟨b, k, none⟩) (World.block_lt_of_cell? u _ h.out.2.2)).trans h.out.2.2⟩
theorem keepB {u w' : World} {a b i j k g s : Nat} {x y z v : Value} (e : Hid (Ext u w')) (hg : Hid (a ≠ g ∧ b ≠ g)) (h : Hid (u.cell? ⟨a, i, none⟩ = some x ∧ u.cell? ⟨b, j, none⟩ = some y ∧ u.cell? ⟨b, k, none⟩ = some z)) :
    (w'.setCell ⟨g, s, none⟩ v).cell? ⟨a, i, none⟩ = some x ∧ (w'.setCell ⟨g, s, none⟩ v).cell? ⟨b, j, none⟩ = some y ∧ (w'.setCell ⟨g, s, none⟩ v).cell? ⟨b, k, none⟩ = some z :=
  ⟨cell_far hg.out.1 (keepA e h).1, cell_far hg.out.2 (keepA e h).2.1, cell_far hg.out.2 (keepA e h).2.2⟩
/-- A fresh row of 64 bytes, as a block and its room. -/
theorem fresh_byt {w w' : World} {A : Option Addr} {c : Nat} {b : List Nat} (h : w'.ownsRow w.heap.size 5 1 (.slice A 64 c) 64 (vb b)) : ∃ g, A = some ⟨g, 0, none⟩ ∧ w.heap.size ≤ g ∧ g < w'.heap.size ∧ Byt w' (g, c) b := by
  rcases h.2 with ⟨_, h0⟩ | ⟨g, cap, cur, hv, hb, hg, rest⟩
  · cases h0
  · injection hv with e1 _ e3
    subst e1; subst e3
    exact ⟨g, rfl, hb, (Array.getElem?_eq_some_iff.1 hg).1, h.1, .inr ⟨g, c, cur, rfl, Nat.zero_le _, hg, rest⟩⟩
theorem RDq.restAt {w : World} {d : Nat} {p : Nat → Nat} {q : Nm} {m : DM} (h : RDq w d p q m) {s : Nat} (hs : s < m.size) : ∃ x, q.RB[s]? = some x ∧ w.cell? ⟨q.gr, s, none⟩ = some (slV x) ∧ w.frozen? ⟨q.gr, s, none⟩ = false ∧ q.gr < w.heap.size := by
  have hl : q.RB.length = m.size := by have := h.rr.1; rw [List.length_map] at this; omega
  obtain ⟨x, hx⟩ : ∃ x, q.RB[s]? = some x := ⟨_, List.getElem?_eq_getElem (by omega)⟩
  exact ⟨x, hx, by rw [h.rr.cellAt s (by omega), List.getElem?_map, hx]; rfl, h.rr.frozenAt s, h.lts.2.1⟩
theorem RDq.meantAt {w : World} {d : Nat} {p : Nat → Nat} {q : Nm} {m : DM} (h : RDq w d p q m) {s : Nat} (hs : s < m.size) : ∃ x, q.MB[s]? = some x ∧ w.cell? ⟨q.gm, s, none⟩ = some (slV x) ∧ w.frozen? ⟨q.gm, s, none⟩ = false ∧ q.gm < w.heap.size := by
  have hl : q.MB.length = m.size := by have := h.rm.1; rw [List.length_map] at this; omega
  obtain ⟨x, hx⟩ : ∃ x, q.MB[s]? = some x := ⟨_, List.getElem?_eq_getElem (by omega)⟩
  exact ⟨x, hx, by rw [h.rm.cellAt s (by omega), List.getElem?_map, hx]; rfl, h.rm.frozenAt s, h.lts.2.2.1⟩
theorem RDq.lostAt {w : World} {d : Nat} {p : Nat → Nat} {q : Nm} {m : DM} (h : RDq w d p q m) {s : Nat} (hs : s < m.size) : w.cell? ⟨q.gl, s, none⟩ = some (.bool (m.lost.getD s false)) ∧ w.frozen? ⟨q.gl, s, none⟩ = false ∧ q.gl < w.heap.size := by
  have hl := h.ok.lost
  refine ⟨?_, h.rl.frozenAt s, h.lts.2.2.2⟩
  rw [h.rl.cellAt s (by omega), List.getElem?_map, List.getElem?_eq_getElem (by omega), List.getD_eq_getElem?_getD, List.getElem?_eq_getElem (by omega)]
  rfl
/-- A new block's part. -/
def part (p : Nat → Nat) (b r : Nat) : Nat → Nat := fun k => if k = b then r else p k
theorem part_at (p : Nat → Nat) (b r : Nat) : part p b r b = r := if_pos rfl
theorem part_old {p : Nat → Nat} {b r n : Nat} (h : n ≤ b) : ∀ k, k < n → part p b r k = p k := fun k hk => if_neg (by omega)
theorem part_nz {p : Nat → Nat} {b r k : Nat} (h : part p b r k ≠ 0) : k = b ∨ p k ≠ 0 := by
  unfold part at h
  split at h
  · exact .inl (by assumption)
  · exact .inr h

set_option maxRecDepth 100000 in
set_option maxHeartbeats 2400000 in
theorem rcome_of {w : World} {d : Nat} {p : Nat → Nat} {m : DM} (h : RD w d p m) (s : Nat) (hs : s < m.size) (A : Option Addr) (c : Nat) (b : List Nat) (hb : By w A 64 c b) (hsb : Sect b) (ho : Off (fun i => p i = 2 ∨ p i = 3 ∨ p i = 4) A) :
    Calls Tryz.prog 138 #[.pointer (some ⟨d, 0, none⟩), .agg #[.int .i64 (s : Int), .slice A 64 c]] w fun e w' => (∃ v, e = .returned v) ∧ ROut d p w (m.come (s, b)) w' := by
  obtain ⟨⟨q, hq⟩, hlt⟩ := h
  obtain ⟨l1, l2, l3, l4⟩ := hq.lts
  have hE : Ext w (w.alloc (.cells #[.int .i64 (s : Int), .slice A 64 c] 168)) := (Ext.refl w).alloc _
  have hZ := heap_alloc_new w (.cells #[.int .i64 (s : Int), .slice A 64 c] 168)
  obtain ⟨V, hV⟩ : ∃ V, w.alloc (.cells #[.int .i64 (s : Int), .slice A 64 c] 168) = V := ⟨_, rfl⟩
  rw [hV] at hE hZ
  have HE := Lib.hid hE
  have HQ := Lib.hid (hq.ext hE)
  have HB := Lib.hid (hb.ext hE)
  have HLT := Lib.hid hlt
  have HO := Lib.hid ho
  have HSB := Lib.hid hsb
  have hsz : m.size ≤ 1024 := hq.head.n1.2
  have n1 : d ≠ q.gr ∧ w.heap.size ≠ q.gr := ⟨fun e => by have a := hq.pd; have b := hq.pr; rw [e] at a; omega, by omega⟩
  have n2 : d ≠ q.gm ∧ w.heap.size ≠ q.gm := ⟨fun e => by have a := hq.pd; have b := hq.pm; rw [e] at a; omega, by omega⟩
  have n3 : d ≠ q.gl ∧ w.heap.size ≠ q.gl := ⟨fun e => by have a := hq.pd; have b := hq.pl; rw [e] at a; omega, by omega⟩
  have N1 := Lib.hid n1
  have N2 := Lib.hid n2
  have N3 := Lib.hid n3
  have hc0 := cell_of_row V w.heap.size 0 _ _ _ hZ
  have hc1 := cell_of_row V w.heap.size 1 _ _ _ hZ
  obtain ⟨⟨d0, d1, d2, _⟩, _⟩ := HQ.out.head.cells
  have HS1 : Hid (V.drew.cell? ⟨d, 0, none⟩ = some (.slice (some ⟨q.gr, 0, none⟩) m.size q.cr) ∧ V.drew.cell? ⟨w.heap.size, 0, none⟩ = some (.int .i64 (s : Int)) ∧ V.drew.cell? ⟨w.heap.size, 1, none⟩ = some (.slice A 64 c)) := Lib.hid ⟨d0, hc0, hc1⟩
  have HZ := Lib.hid hZ
  have HVR : Hid (Ext V.drew V.drew) := Lib.hid (Ext.refl _)
  have i0 : (0 : Int) ≤ (s : Int) := by omega
  have i1 : (s : Int) < (m.size : Int) := by omega
  have HQd := Lib.hid (HQ.out.ext (Ext.refl V).drew)
  have HBd : Hid (By V.drew A 64 c b) := Lib.hid (HB.out.ext (Ext.refl V).drew)
  clear hq hb hsb hlt n1 n2 n3 hE hZ ho
  go_enter Tryz.func138, Tryz.ntmps138
  go_wp2_with fail
  go_region_held3 (fun w' => w'.cell? ⟨d, 0, none⟩ = some (.slice (some ⟨q.gr, 0, none⟩) m.size q.cr) ∧ w'.cell? ⟨w.heap.size, 0, none⟩ = some (.int .i64 (s : Int)) ∧ w'.cell? ⟨w.heap.size, 1, none⟩ = some (.slice A 64 c))
    (first | exact keepA (by assumption) HS1 | exact keepB (by assumption) N1 HS1)
    (first
      | (go_at_call 21; ((with_reducible refine (copy_by A b 64 c _ HBd.out (by omega)).mono ?_); rintro e w2 ⟨A1, c1, rfl, _, hx, ho⟩; obtain ⟨b1, rfl, g1, g2, hb1⟩ := fresh_byt ho; have HK1 := Lib.hid hx; have HY1 := Lib.hid hb1; obtain ⟨x1, _, hc1, hf1, hl1⟩ := (HQd.out.ext hx).restAt hs; clear hx ho hb1)))
  have hVs : V.heap.size = w.heap.size + 1 := by rw [← hV]; simp
  have hQ1 : RDq (w2.setCell ⟨q.gr, s, none⟩ (slV (b1, c1))) d (part p b1 (7 + s)) { q with RB := q.RB.set s (b1, c1) } { m with rest := m.rest.set s b } := ((HQd.out.recast (p' := part p b1 (7 + s)) (part_old g1)).ext HK1.out).setRest hs HSB.out HY1.out (part_at _ _ _)
  have hB1 : By (w2.setCell ⟨q.gr, s, none⟩ (slV (b1, c1))) A 64 c b := (HBd.out.ext HK1.out).mod (mod_one _ _ _ _) fun r hr e => HO.out r hr (.inl (by rw [e]; exact HQ.out.pr))
  have hZ1 : (w2.setCell ⟨q.gr, s, none⟩ (slV (b1, c1))).heap[w.heap.size]? = _ := heap_set (g := q.gr) (k := s) (x := slV (b1, c1)) N1.out.2 ((HK1.out.block _ (show w.heap.size < V.drew.heap.size by show _ < V.heap.size; omega)).trans HZ.out)
  have hM1 : Mod (fun k => p k ≠ 0) w (w2.setCell ⟨q.gr, s, none⟩ (slV (b1, c1))) := ((Mod.of_ext ((HE.out.trans (Ext.refl V).drew).trans HK1.out)).trans (mod_one w2 q.gr s (slV (b1, c1))) fun i hi => .inl (by rw [hi, HQ.out.pr]; omega))
  have hb1 : w.heap.size ≤ b1 ∧ b1 < (w2.setCell ⟨q.gr, s, none⟩ (slV (b1, c1))).heap.size := ⟨by have : V.drew.heap.size = V.heap.size := rfl; omega, by simpa [World.setCell] using g2⟩
  rw [show Value.slice (some ⟨b1, 0, none⟩) 64 c1 = slV (b1, c1) from rfl]
  obtain ⟨X1, hX1⟩ : ∃ X, w2.setCell ⟨q.gr, s, none⟩ (slV (b1, c1)) = X := ⟨_, rfl⟩
  rw [hX1] at hQ1 hB1 hZ1 hM1 hb1
  rw [hX1]
  have HQ1 := Lib.hid (hQ1.ext (Ext.refl X1).drew)
  have HB1 := Lib.hid (hB1.ext (Ext.refl X1).drew)
  have HZ1 := Lib.hid hZ1
  have HM1 := Lib.hid hM1
  have HN1 := Lib.hid hb1
  obtain ⟨⟨d0, d1, d2, _⟩, _⟩ := hQ1.head.cells
  have hc0 := cell_of_row X1 w.heap.size 0 _ _ _ hZ1
  have hc1 := cell_of_row X1 w.heap.size 1 _ _ _ hZ1
  have HS2 : Hid (X1.drew.cell? ⟨d, 1, none⟩ = some (.slice (some ⟨q.gm, 0, none⟩) m.size q.cm) ∧ X1.drew.cell? ⟨w.heap.size, 0, none⟩ = some (.int .i64 (s : Int)) ∧ X1.drew.cell? ⟨w.heap.size, 1, none⟩ = some (.slice A 64 c)) := Lib.hid ⟨by have := d1; simp only [DM.size, List.length_set] at this ⊢; exact this, hc0, hc1⟩
  have HVR2 : Hid (Ext X1.drew X1.drew) := Lib.hid (Ext.refl _)
  clear hQ1 hB1 hZ1 hM1 hb1 HS1 HVR HQd HBd hX1 HK1 HY1 g1 g2 hf1 hl1 hc1 hc0 d0 d1 d2
  go_wp2_with fail
  go_region_held3 (fun w' => w'.cell? ⟨d, 1, none⟩ = some (.slice (some ⟨q.gm, 0, none⟩) m.size q.cm) ∧ w'.cell? ⟨w.heap.size, 0, none⟩ = some (.int .i64 (s : Int)) ∧ w'.cell? ⟨w.heap.size, 1, none⟩ = some (.slice A 64 c))
    (first | exact keepA (by assumption) HS2 | exact keepB (by assumption) N2 HS2)
    (first
      | (go_at_call 21; ((with_reducible refine (copy_by A b 64 c _ HB1.out (by omega)).mono ?_); rintro e w4 ⟨A2, c2, rfl, _, hx, ho⟩; obtain ⟨b2, rfl, g1, g2, hb2⟩ := fresh_byt ho; have HK2 := Lib.hid hx; have HY2 := Lib.hid hb2; obtain ⟨x2, _, hc2, hf2, hl2⟩ := (HQ1.out.ext hx).meantAt (s := s) (by simp only [DM.size, List.length_set]; exact hs); clear hx ho hb2)))
  have hQ2 : RDq (w4.setCell ⟨q.gm, s, none⟩ (slV (b2, c2))) d (part (part p b1 (7 + s)) b2 6) { q with RB := q.RB.set s (b1, c1), MB := q.MB.set s (b2, c2) } { m with rest := m.rest.set s b, meant := m.meant.set s b } := ((HQ1.out.recast (p' := part (part p b1 (7 + s)) b2 6) (part_old g1)).ext HK2.out).setMeant (by simp only [DM.size, List.length_set]; exact hs) HSB.out HY2.out (part_at _ _ _)
  have hZ2 : (w4.setCell ⟨q.gm, s, none⟩ (slV (b2, c2))).heap[w.heap.size]? = _ := heap_set (g := q.gm) (k := s) (x := slV (b2, c2)) N2.out.2 ((HK2.out.block _ (show w.heap.size < X1.drew.heap.size from (Array.getElem?_eq_some_iff.1 HZ1.out).1)).trans HZ1.out)
  have hM2 : Mod (fun k => p k ≠ 0) w (w4.setCell ⟨q.gm, s, none⟩ (slV (b2, c2))) := ((HM1.out.ext ((Ext.refl X1).drew.trans HK2.out)).trans (mod_one w4 q.gm s (slV (b2, c2))) fun i hi => .inl (by rw [hi, HQ.out.pm]; omega))
  have hb2 : X1.heap.size ≤ b2 ∧ b2 < (w4.setCell ⟨q.gm, s, none⟩ (slV (b2, c2))).heap.size := ⟨g1, by simpa [World.setCell] using g2⟩
  have hsz2 : X1.heap.size ≤ (w4.setCell ⟨q.gm, s, none⟩ (slV (b2, c2))).heap.size := by have := HK2.out.size; simp [World.setCell]; exact this
  rw [show Value.slice (some ⟨b2, 0, none⟩) 64 c2 = slV (b2, c2) from rfl]
  obtain ⟨X2, hX2⟩ : ∃ X, w4.setCell ⟨q.gm, s, none⟩ (slV (b2, c2)) = X := ⟨_, rfl⟩
  rw [hX2] at hQ2 hZ2 hM2 hb2 hsz2
  rw [hX2]
  have HQ2 := Lib.hid hQ2
  have HM2 := Lib.hid hM2
  have HN2 := Lib.hid hb2
  have HZ2 := Lib.hid hZ2
  obtain ⟨⟨d0, d1, d2, _⟩, _⟩ := hQ2.head.cells
  have d2' : X2.cell? ⟨d, 2, none⟩ = some (.slice (some ⟨q.gl, 0, none⟩) m.size q.cl) := by have := d2; simp only [DM.size, List.length_set] at this ⊢; exact this
  have hc0 := cell_of_row X2 w.heap.size 0 _ _ _ hZ2
  obtain ⟨hcl, hfl, hll⟩ := hQ2.lostAt (s := s) (by simp only [DM.size, List.length_set]; exact hs)
  clear hQ2 hZ2 hM2 hb2 HS2 HVR2 HQ1 HB1 HZ1 HM1 hX2 HK2 HY2 g1 g2 hf2 hl2 hc2 d0 d1 d2
  go_wp2_with fail
  go_region
  go_end0
  have hM3 : Mod (fun k => p k ≠ 0) w (X2.setCell ⟨q.gl, s, none⟩ (.bool false)).drew := ((HM2.out.trans (mod_one X2 q.gl s (.bool false)) fun i hi => .inl (by rw [hi, HQ.out.pl]; omega))).drew
  have hs3 : (X2.setCell ⟨q.gl, s, none⟩ (.bool false)).drew.heap.size = X2.heap.size := by show (X2.setCell ⟨q.gl, s, none⟩ (.bool false)).heap.size = _; simp [World.setCell]
  refine ⟨⟨_, rfl⟩, part (part p b1 (7 + s)) b2 6, ⟨⟨_, (HQ2.out.setLost s false).ext (Ext.refl _).drew⟩, fun k hk => ?_⟩, hM3, fun k hk => ?_⟩
  · rw [hs3]
    rcases part_nz hk with rfl | hk
    · exact HN2.out.2
    · rcases part_nz hk with rfl | hk
      · exact Nat.lt_of_lt_of_le HN1.out.2 hsz2
      · exact Nat.lt_of_lt_of_le (HLT.out k hk) HM2.out.size
  · rcases part_nz hk with rfl | hk
    · exact .inr (Nat.le_trans (Nat.le_trans HN1.out.1 (Nat.le_of_lt HN1.out.2)) HN2.out.1)
    · rcases part_nz hk with rfl | hk
      · exact .inr HN1.out.1
      · exact .inl hk
end Go.Proofs.YtlikhmhomkiadaaGreatDoor

namespace Go.Proofs.YtlikhmhomkiadaaGreatDoor
set_option maxRecDepth 100000
open Go Go.RowKit

section
variable {w : World} {d : Nat} {p : Nat → Nat} {m : DM}
/-- The head alone is written. -/
theorem RDq.head_out {w' : World} {q : Nm} {m' : DM} (h : RDq w d p q m) (hlt : ∀ k, p k ≠ 0 → k < w.heap.size) (k : Mod (fun i => i = d) w w') (hd : RHead w' d q.gr q.cr q.gm q.cm q.gl q.cl q.pv m') (h1 : m'.rest = m.rest) (h2 : m'.meant = m.meant) (h3 : m'.lost = m.lost) (h4 : m'.waits = m.waits) (h5 : -1 ≤ m'.power ∧ m'.power ≤ 9223372036854775807) : ROut d p w m' w' :=
  ⟨p, ⟨⟨q, h.setHead k hd h1 h2 h3 h4 h5⟩, fun i hi => Nat.lt_of_lt_of_le (hlt i hi) k.size⟩, k.mono fun i hi => by rw [hi, h.pd]; omega, fun i hi => .inl hi⟩
theorem rstart_out (h : RD w d p m) : Calls Tryz.prog 104 #[.pointer (some ⟨d, 0, none⟩)] w fun e w' => e = .returned (.int .i64 m.start.1) ∧ ROut d p w m.start.2 w' := by
  obtain ⟨⟨q, hq⟩, hlt⟩ := h
  refine (rstart_of hq.head).mono fun e w' ⟨h1, h2, h3⟩ => ⟨h1, hq.head_out hlt h3 h2 ?_ ?_ ?_ ?_ ?_⟩
  · unfold DM.start; split <;> rfl
  · unfold DM.start; split <;> rfl
  · unfold DM.start; split <;> rfl
  · unfold DM.start; split <;> rfl
  · unfold DM.start; split
    · exact ⟨hq.ok.power, hq.few⟩
    · exact ⟨Int.le_refl _, by show (-1 : Int) ≤ _; omega⟩
theorem rpower_out (h : RD w d p m) (n : Int) (hn : n ≤ 9223372036854775807) : Calls Tryz.prog 108 #[.pointer (some ⟨d, 0, none⟩), .int .i64 n] w fun e w' => e = .returned (.int .i64 (m.setPower n).1) ∧ ROut d p w (m.setPower n).2 w' := by
  obtain ⟨⟨q, hq⟩, hlt⟩ := h
  refine (rpower_of hq.head n).mono fun e w' ⟨h1, h2, h3⟩ => ⟨h1, hq.head_out hlt h3 h2 ?_ ?_ ?_ ?_ ?_⟩
  · unfold DM.setPower; split
    · rfl
    · split <;> rfl
  · unfold DM.setPower; split
    · rfl
    · split <;> rfl
  · unfold DM.setPower; split
    · rfl
    · split <;> rfl
  · unfold DM.setPower; split
    · rfl
    · split <;> rfl
  · unfold DM.setPower; split
    · exact ⟨hq.ok.power, hq.few⟩
    · split
      · exact ⟨hq.ok.power, hq.few⟩
      · exact ⟨by show (-1 : Int) ≤ n; omega, hn⟩
theorem rspend_out {q : Nm} (hq : RDq w d p q m) : Calls Tryz.prog 109 #[.pointer (some ⟨d, 0, none⟩)] w fun e w' => e = .returned (.bool (decide (m.power ≠ 0))) ∧ RDq w' d p q (spendM m) ∧ Mod (fun i => i = d) w w' := by
  refine (rspend_of hq.head ⟨hq.ok.power, hq.few⟩).mono fun e w' ⟨h1, h2, h3⟩ => ⟨h1, hq.setHead h3 h2 ?_ ?_ ?_ ?_ ?_, h3⟩
  · unfold spendM; split <;> rfl
  · unfold spendM; split <;> rfl
  · unfold spendM; split <;> rfl
  · unfold spendM; split <;> rfl
  · unfold spendM
    have := hq.few
    have := hq.ok.power
    split
    · exact ⟨hq.ok.power, hq.few⟩
    · refine ⟨lessP_le hq.ok.power, ?_⟩
      show lessP m.power ≤ _
      unfold lessP
      split <;> omega

set_option maxRecDepth 100000 in
set_option maxHeartbeats 800000 in
theorem rlose_out (h : RD w d p m) (s : Int) : Calls Tryz.prog 106 #[.pointer (some ⟨d, 0, none⟩), .int .i64 s] w fun e w' => e = .returned (.int .i64 (m.lose s).1) ∧ ROut d p w (m.lose s).2 w' := by
  obtain ⟨⟨q, hq⟩, hlt⟩ := h
  have hh := rhas_of hq.head s
  have HQ := Lib.hid hq
  have HLT := Lib.hid hlt
  by_cases hs : m.has s = false
  · rw [hs] at hh
    have HH := Lib.hid hh
    have HE : Hid (m.lose s = (2, m)) := Lib.hid (by unfold DM.lose; rw [if_pos hs])
    clear hh hs hq hlt
    go_enter Tryz.func106, Tryz.ntmps106
    go_wp2_with fail
    refine HH.out.mono ?_
    rintro e w1 ⟨rfl, rfl⟩
    go_wp2_with fail
    go_ret
    rw [HE.out]
    exact ⟨rfl, p, ⟨⟨q, HQ.out⟩, HLT.out⟩, Mod.refl _ _, fun k hk => .inl hk⟩
  · have hs' : m.has s = true := by simpa using hs
    obtain ⟨s0, s1⟩ := DM.has_iff.1 hs'
    obtain ⟨k, rfl⟩ := Int.eq_ofNat_of_zero_le s0
    have hk : k < m.size := by omega
    rw [hs'] at hh
    have HH := Lib.hid hh
    have HE : Hid (m.lose (k : Int) = (0, { m with lost := m.lost.set k true })) := Lib.hid (by unfold DM.lose; rw [if_neg hs, Int.toNat_natCast])
    obtain ⟨⟨_, _, d2, _⟩, _⟩ := hq.head.cells
    obtain ⟨hc, hf, hl⟩ := hq.lostAt hk
    have hsz := hq.head.n1.2
    clear hh hs hs' hq hlt
    go_enter Tryz.func106, Tryz.ntmps106
    go_wp2_with fail
    refine HH.out.mono ?_
    rintro e w1 ⟨rfl, rfl⟩
    go_wp2_with fail
    go_ret
    rw [HE.out]
    exact ⟨rfl, p, ⟨⟨q, HQ.out.setLost k true⟩, fun i hi => by have := HLT.out i hi; simpa [World.setCell] using this⟩, (mod_one w q.gl k (.bool true)).mono fun i hi => by rw [hi, HQ.out.pl]; omega, fun k hk => .inl hk⟩

set_option maxRecDepth 100000 in
set_option maxHeartbeats 1600000 in
theorem rstray_out (h : RD w d p m) (a b : Int) : Calls Tryz.prog 107 #[.pointer (some ⟨d, 0, none⟩), .int .i64 a, .int .i64 b] w fun e w' => e = .returned (.int .i64 (m.stray a b).1) ∧ ROut d p w (m.stray a b).2 w' := by
  obtain ⟨⟨q, hq⟩, hlt⟩ := h
  have hha := rhas_of hq.head a
  have hhb := rhas_of hq.head b
  have HQ := Lib.hid hq
  have HLT := Lib.hid hlt
  by_cases ha : m.has a = false
  · rw [ha] at hha
    have HH := Lib.hid hha
    have HE : Hid (m.stray a b = (2, m)) := Lib.hid (by unfold DM.stray; rw [if_pos (.inl ha)])
    clear hha hhb ha hq hlt
    go_enter Tryz.func107, Tryz.ntmps107
    go_wp2_with fail
    refine HH.out.mono ?_
    rintro e w1 ⟨rfl, rfl⟩
    go_wp2_with fail
    go_ret
    rw [HE.out]
    exact ⟨rfl, p, ⟨⟨q, HQ.out⟩, HLT.out⟩, Mod.refl _ _, fun k hk => .inl hk⟩
  by_cases hb : m.has b = false
  · rw [show m.has a = true by simpa using ha] at hha
    rw [hb] at hhb
    have HH := Lib.hid hha
    have HHb := Lib.hid hhb
    have HE : Hid (m.stray a b = (2, m)) := Lib.hid (by unfold DM.stray; rw [if_pos (.inr hb)])
    clear hha hhb ha hb hq hlt
    go_enter Tryz.func107, Tryz.ntmps107
    go_wp2_with fail
    refine HH.out.mono ?_
    rintro e w1 ⟨rfl, rfl⟩
    go_wp2_with fail
    refine HHb.out.mono ?_
    rintro e w1 ⟨rfl, rfl⟩
    go_wp2_with fail
    go_ret
    rw [HE.out]
    exact ⟨rfl, p, ⟨⟨q, HQ.out⟩, HLT.out⟩, Mod.refl _ _, fun k hk => .inl hk⟩
  · have ha' : m.has a = true := by simpa using ha
    have hb' : m.has b = true := by simpa using hb
    obtain ⟨a0, a1⟩ := DM.has_iff.1 ha'
    obtain ⟨b0, b1⟩ := DM.has_iff.1 hb'
    obtain ⟨i, rfl⟩ := Int.eq_ofNat_of_zero_le a0
    obtain ⟨j, rfl⟩ := Int.eq_ofNat_of_zero_le b0
    have hi : i < m.size := by omega
    have hj : j < m.size := by omega
    rw [ha'] at hha
    rw [hb'] at hhb
    have HH := Lib.hid hha
    have HHb := Lib.hid hhb
    have HE : Hid (m.stray (i : Int) (j : Int) = (0, { m with rest := m.rest.set j (m.rest.getD i []), lost := m.lost.set j (m.lost.getD i false) })) := Lib.hid (by unfold DM.stray; rw [if_neg (fun h => h.elim ha hb), Int.toNat_natCast, Int.toNat_natCast])
    obtain ⟨⟨d0, _, d2, _⟩, _⟩ := hq.head.cells
    obtain ⟨x, hx, hxc, _, _⟩ := hq.restAt hi
    obtain ⟨y, hy, hyc, hyf, hyl⟩ := hq.restAt hj
    have hsec : Sect (m.rest.getD i []) := by
      have hil : i < m.rest.length := hi
      rw [List.getD_eq_getElem?_getD, List.getElem?_eq_getElem hil, Option.getD_some]
      exact hq.ok.rests _ (List.getElem_mem hil)
    have HSEC := Lib.hid hsec
    have HBY : Hid (By w.drew (some ⟨x.1, 0, none⟩) 64 x.2 (m.rest.getD i [])) := Lib.hid (((hq.rb i x hx).2.by hsec.2).ext (Ext.refl w).drew)
    have HQd := Lib.hid (hq.ext (Ext.refl w).drew)
    have hsz := hq.head.n1.2
    unfold slV at hxc hyc
    have HI := Lib.hid hi
    have HJ := Lib.hid hj
    clear hha hhb ha hb ha' hb' hq hlt hx hy hsec
    go_enter Tryz.func107, Tryz.ntmps107
    go_wp2_with fail
    refine HH.out.mono ?_
    rintro e w1 ⟨rfl, rfl⟩
    go_wp2_with fail
    refine HHb.out.mono ?_
    rintro e w1 ⟨rfl, rfl⟩
    go_wp2_with fail
    go_region_with (go_at_call 21; refine (copy_by (some ⟨x.1, 0, none⟩) (m.rest.getD i []) 64 x.2 _ HBY.out (by omega)).mono ?_; rintro e w2 ⟨A1, c1, rfl, _, hx, ho⟩; obtain ⟨bk, rfl, g1, g2, hb1⟩ := fresh_byt ho; have HK1 := Lib.hid hx; have HY1 := Lib.hid hb1; obtain ⟨y1, _, hc1, hf1, hl1⟩ := (HQd.out.ext hx).restAt HJ.out; obtain ⟨⟨d0w, _⟩, _⟩ := (HQd.out.ext hx).head.cells; clear hx ho hb1)
    all_goals
      have hQ1 : RDq (w2.setCell ⟨q.gr, j, none⟩ (slV (bk, c1))) d (part p bk (7 + j)) { q with RB := q.RB.set j (bk, c1) } { m with rest := m.rest.set j (m.rest.getD i []) } := ((HQd.out.recast (p' := part p bk (7 + j)) (part_old g1)).ext HK1.out).setRest HJ.out HSEC.out HY1.out (part_at _ _ _)
      have hM1 : Mod (fun k => p k ≠ 0) w (w2.setCell ⟨q.gr, j, none⟩ (slV (bk, c1))) := ((Mod.of_ext ((Ext.refl w).drew.trans HK1.out)).trans (mod_one w2 q.gr j (slV (bk, c1))) fun i hi => .inl (by rw [hi, HQ.out.pr]; omega))
      have hn1 : w.heap.size ≤ bk ∧ bk < (w2.setCell ⟨q.gr, j, none⟩ (slV (bk, c1))).heap.size := ⟨g1, by simpa [World.setCell] using g2⟩
      have hsz1 : (w2.setCell ⟨q.gr, j, none⟩ (slV (bk, c1))).heap.size = w2.heap.size := by simp [World.setCell]
      rw [show Value.slice (some ⟨bk, 0, none⟩) 64 c1 = slV (bk, c1) from rfl]
      obtain ⟨X1, hX1⟩ : ∃ X, w2.setCell ⟨q.gr, j, none⟩ (slV (bk, c1)) = X := ⟨_, rfl⟩
      rw [hX1] at hQ1 hM1 hn1
      rw [hX1]
      have HQ1 := Lib.hid hQ1
      have HM1 := Lib.hid hM1
      have HN1 := Lib.hid hn1
      obtain ⟨⟨_, _, e2, _⟩, _⟩ := hQ1.head.cells
      have e2' : X1.cell? ⟨d, 2, none⟩ = some (.slice (some ⟨q.gl, 0, none⟩) m.size q.cl) := by have := e2; simp only [DM.size, List.length_set] at this ⊢; exact this
      obtain ⟨hli, _, _⟩ := hQ1.lostAt (s := i) (by simp only [DM.size, List.length_set]; exact HI.out)
      obtain ⟨hlj, hfj, hll⟩ := hQ1.lostAt (s := j) (by simp only [DM.size, List.length_set]; exact HJ.out)
      clear hQ1 hM1 hn1 hX1 hsz1 e2 HK1 HY1 hc1 hf1 hl1 d0w g1 g2 d0 d2 hxc hyc hyf hyl
      go_wp2_with fail
      go_region
      go_wp2_with fail
      go_ret
      rw [HE.out]
      have hM3 : Mod (fun k => p k ≠ 0) w (X1.setCell ⟨q.gl, j, none⟩ (.bool (m.lost.getD i false))).drew := ((HM1.out.trans (mod_one X1 q.gl j (.bool (m.lost.getD i false))) fun i hi => .inl (by rw [hi, HQ.out.pl]; omega))).drew
      have hs3 : (X1.setCell ⟨q.gl, j, none⟩ (.bool (m.lost.getD i false))).drew.heap.size = X1.heap.size := by show (X1.setCell ⟨q.gl, j, none⟩ (.bool (m.lost.getD i false))).heap.size = _; simp [World.setCell]
      refine ⟨rfl, part p bk (7 + j), ⟨⟨_, (HQ1.out.setLost j (m.lost.getD i false)).ext (Ext.refl _).drew⟩, fun k hk => ?_⟩, hM3, fun k hk => ?_⟩
      · refine Nat.lt_of_lt_of_le (m := X1.heap.size) ?_ (Nat.le_of_eq hs3.symm)
        rcases part_nz hk with rfl | hk
        · exact HN1.out.2
        · exact Nat.lt_of_lt_of_le (HLT.out k hk) HM1.out.size
      · rcases part_nz hk with rfl | hk
        · exact .inr HN1.out.1
        · exact .inl hk
end
end Go.Proofs.YtlikhmhomkiadaaGreatDoor

namespace Go.Proofs.YtlikhmhomkiadaaGreatDoor
set_option maxRecDepth 100000
open Go Go.RowKit

theorem wflat_at : ∀ {l : List (Nat × List Nat)} {r : List (Nat × Nat)} {k : Nat} {x : Nat × List Nat} {y : Nat × Nat}, l[k]? = some x → r[k]? = some y → (wflat l r)[k * 2]? = some (.int .i64 (x.1 : Int)) ∧ (wflat l r)[k * 2 + 1]? = some (slV y)
  | [], _, k, x, y, h, _ => by simp at h
  | _ :: _, [], k, x, y, _, h => by simp at h
  | a :: l, b :: r, 0, x, y, h, h2 => by
    simp only [List.getElem?_cons_zero, Option.some.injEq] at h h2
    subst h; subst h2
    exact ⟨rfl, rfl⟩
  | a :: l, b :: r, k + 1, x, y, h, h2 => by
    simp only [List.getElem?_cons_succ] at h h2
    have := wflat_at h h2
    rw [show (k + 1) * 2 = k * 2 + 2 by omega, show k * 2 + 2 + 1 = k * 2 + 1 + 2 by omega]
    exact this
/-- The pending write at a place. -/
theorem RDq.waitAt {w : World} {d : Nat} {p : Nat → Nat} {q : Nm} {m : DM} (h : RDq w d p q m) {k : Nat} (hk : k < m.waits.length) : ∃ g c x y, q.pv = .slice (some ⟨g, 0, none⟩) m.waits.length c ∧ m.waits[k]? = some x ∧ q.WB[k]? = some y ∧ w.cell? ⟨g, k * 2, none⟩ = some (.int .i64 (x.1 : Int)) ∧ w.cell? ⟨g, k * 2 + 1, none⟩ = some (slV y) ∧ p y.1 = 6 ∧ Byt w y x.2 ∧ x.1 < m.size ∧ Sect x.2 := by
  obtain ⟨x, hx⟩ : ∃ x, m.waits[k]? = some x := ⟨_, List.getElem?_eq_getElem hk⟩
  obtain ⟨y, hy⟩ : ∃ y, q.WB[k]? = some y := ⟨_, List.getElem?_eq_getElem (by rw [h.wl]; exact hk)⟩
  obtain ⟨w1, w2⟩ := wflat_at hx hy
  have hw := h.ok.waits x (List.mem_of_getElem? hx)
  have hb := h.wb k y hy
  rw [List.getD_eq_getElem?_getD, hx, Option.getD_some] at hb
  rcases h.pen.2 with ⟨_, h0⟩ | ⟨g, cap, cur, hv, _, hg, hrest⟩
  · omega
  · have hc := h.pen.cells (g := g) (by rw [hv]; rfl)
    have e1 := hc _ _ w1
    have e2 := hc _ _ w2
    rw [Addr.add_lit, Nat.zero_add] at e1 e2
    exact ⟨g, cap, x, y, hv, hx, hy, e1, e2, hb.1, hb.2, hw.1, hw.2⟩

section
variable {w : World} {d : Nat} {p : Nat → Nat} {m : DM}
set_option maxRecDepth 100000 in
set_option maxHeartbeats 1200000 in
theorem rat_out (h : RD w d p m) (s : Int) : Calls Tryz.prog 35 #[.pointer (some ⟨d, 0, none⟩), .int .i64 s] w fun e w' => ∃ A n c, e = .returned (.tuple #[.slice A n c, .bool (m.at_ s).2.1, .int .i64 (m.at_ s).2.2]) ∧ By w' A n c (m.at_ s).1 ∧ Ext w w' := by
  obtain ⟨⟨q, hq⟩, hlt⟩ := h
  have hh := rhas_of hq.head s
  by_cases hs : m.has s = false
  · rw [hs] at hh
    have HH := Lib.hid hh
    have HE : Hid (m.at_ s = ([], false, 2)) := Lib.hid (by unfold DM.at_; rw [if_pos hs])
    clear hh hs hq hlt
    go_enter Tryz.func35, Tryz.ntmps35
    go_wp2_with fail
    refine HH.out.mono ?_
    rintro e w1 ⟨rfl, rfl⟩
    go_wp2_with fail
    refine bodyPost_ret (v := .tuple #[.slice none 0 0, .bool false, .int .i64 2]) (by simp [results, Tryz.results35, go_sem]) rfl ?_
    exact ⟨none, 0, 0, by rw [HE.out], by rw [HE.out]; exact By.nil_ _, Ext.refl _⟩
  have hs' : m.has s = true := by simpa using hs
  obtain ⟨s0, s1⟩ := DM.has_iff.1 hs'
  obtain ⟨j, rfl⟩ := Int.eq_ofNat_of_zero_le s0
  have hj : j < m.size := by omega
  rw [hs'] at hh
  have HH := Lib.hid hh
  obtain ⟨⟨d0, _, d2, _⟩, _⟩ := hq.head.cells
  obtain ⟨hc, _, _⟩ := hq.lostAt hj
  obtain ⟨x, hx, hxc, _, _⟩ := hq.restAt hj
  have hsec : Sect (m.rest.getD j []) := by
    have hil : j < m.rest.length := hj
    rw [List.getD_eq_getElem?_getD, List.getElem?_eq_getElem hil, Option.getD_some]
    exact hq.ok.rests _ (List.getElem_mem hil)
  have HB := Lib.hid ((hq.rb j x hx).2.by hsec.2)
  have hsz := hq.head.n1.2
  unfold slV at hxc
  by_cases hlo : m.lost.getD j false = true
  · have HE : Hid (m.at_ (j : Int) = ([], true, 0)) := Lib.hid (by unfold DM.at_; rw [if_neg hs, Int.toNat_natCast, if_pos hlo])
    rw [hlo] at hc
    clear hh hs hs' hq hlt hlo hx hsec
    go_enter Tryz.func35, Tryz.ntmps35
    go_wp2_with fail
    refine HH.out.mono ?_
    rintro e w1 ⟨rfl, rfl⟩
    go_wp2_with fail
    refine bodyPost_ret (v := .tuple #[.slice none 0 0, .bool true, .int .i64 0]) (by simp [results, Tryz.results35, go_sem]) rfl ?_
    exact ⟨none, 0, 0, by rw [HE.out], by rw [HE.out]; exact By.nil_ _, Ext.refl _⟩
  · have HE : Hid (m.at_ (j : Int) = (m.rest.getD j [], false, 0)) := Lib.hid (by unfold DM.at_; rw [if_neg hs, Int.toNat_natCast, if_neg hlo])
    rw [show m.lost.getD j false = false by simpa using hlo] at hc
    clear hh hs hs' hq hlt hlo hx hsec
    go_enter Tryz.func35, Tryz.ntmps35
    go_wp2_with fail
    refine HH.out.mono ?_
    rintro e w1 ⟨rfl, rfl⟩
    go_wp2_with fail
    refine (copy_by (some ⟨x.1, 0, none⟩) (m.rest.getD j []) 64 x.2 _ HB.out (by omega)).mono ?_
    rintro e w2 ⟨A1, c1, rfl, hb, hx, _⟩
    have HB1 := Lib.hid hb
    have HX1 := Lib.hid hx
    clear hb hx
    go_wp2_with fail
    refine bodyPost_ret (v := .tuple #[.slice A1 64 c1, .bool false, .int .i64 0]) (by simp [results, Tryz.results35, go_sem]) rfl ?_
    exact ⟨_, _, _, by rw [HE.out], by rw [HE.out]; exact HB1.out, HX1.out⟩
end
end Go.Proofs.YtlikhmhomkiadaaGreatDoor

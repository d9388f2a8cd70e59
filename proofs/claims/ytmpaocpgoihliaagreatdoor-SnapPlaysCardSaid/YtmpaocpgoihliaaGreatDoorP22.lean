/-
  The document's disk: Read.
-/
import Derived.Test.YtmpaocpgoihliaaGreatDoorP00
import Derived.Test.YtmpaocpgoihliaaGreatDoorP01
import Derived.Test.YtmpaocpgoihliaaGreatDoorP21
namespace Go.Proofs.YtmpaocpgoihliaaGreatDoor
set_option maxRecDepth 100000
section
open Go Go.RowKit
def lastI (l : List (Nat × List Nat)) (s : Nat) : Nat → Int
 | 0 => -1
 | k + 1 => if (l.getD k (0, [])).1 = s ∧ k < l.length then (k : Int) else lastI l s k
theorem lastI_in (l : List (Nat × List Nat)) (s : Nat) : ∀ k, k ≤ l.length → (lastI l s k = -1 ∧ lastW (l.take k) s = none) ∨ ∃ i x, i < k ∧ lastI l s k = (i : Int) ∧ l[i]? = some x ∧ lastW (l.take k) s = some x.2 := by
 intro k
 induction k with
 | zero => intro _; exact .inl ⟨rfl, by simp [lastW]⟩
 | succ k ih =>
  intro hk
  obtain ⟨x, hx⟩ : ∃ x, l[k]? = some x := ⟨_, List.getElem?_eq_getElem (by omega)⟩
  have hgd : l.getD k (0, []) = x := by rw [List.getD_eq_getElem?_getD, hx]; rfl
  have hw : lastW (l.take (k + 1)) s = if x.1 = s then some x.2 else lastW (l.take k) s := by
   rw [take_snoc hx, lastW_snoc]
  unfold lastI
  rw [hgd, hw]
  by_cases h : x.1 = s
  ·rw [if_pos ⟨h, by omega⟩, if_pos h]
   exact .inr ⟨k, x, by omega, rfl, hx, rfl⟩
  ·rw [if_neg (fun hh => h hh.1), if_neg h]
   rcases ih (by omega) with h1 | ⟨i, y, h1, h2, h3, h4⟩
   ·exact .inl h1
   ·exact .inr ⟨i, y, by omega, h2, h3, h4⟩
section
variable {w : World} {d : Nat} {p : Nat → Nat} {m : DM}
set_option maxHeartbeats 2400000 in
theorem rread_out (h : RD w d p m) (s : Int) (hsw : s ≤ 9223372036854775807) (hfew : m.waits.length ≤ 1000000) : Calls Tryz.prog 175 #[.pointer (some ⟨d, 0, none⟩), .int .i64 s] w fun e w' => ∃ A n c, e = .returned (.tuple #[.slice A n c, .int .i64 (m.read s).2]) ∧ By w' A n c (m.read s).1 ∧ Ext w w' := by
 obtain ⟨⟨q, hq⟩, hlt⟩ := h
 obtain ⟨⟨d0, _, d2, d3, d4, d5, _⟩, _⟩ := hq.head.cells
 by_cases hu : m.up = false
 ·have HE : Hid (m.read s = ([], 5)) := Lib.hid (by unfold DM.read; rw [if_pos hu])
  rcases up_cases hu with hd | ⟨hd, hdd⟩
  ·rw [hd] at d4
   clear hu hd hq hlt
   go_enter Tryz.func175, Tryz.ntmps175
   go_wp2_with fail
   refine bodyPost_ret (v := .tuple #[.slice none 0 0, .int .i64 5]) (by simp [results, Tryz.results175, go_sem]) rfl ?_
   exact ⟨none, 0, 0, by rw [HE.out], by rw [HE.out]; exact By.nil_ _, Ext.refl _⟩
  ·rw [hd] at d4
   rw [hdd] at d5
   clear hu hd hdd hq hlt
   go_enter Tryz.func175, Tryz.ntmps175
   go_wp2_with fail
   refine bodyPost_ret (v := .tuple #[.slice none 0 0, .int .i64 5]) (by simp [results, Tryz.results175, go_sem]) rfl ?_
   exact ⟨none, 0, 0, by rw [HE.out], by rw [HE.out]; exact By.nil_ _, Ext.refl _⟩
 have hu' : m.up = true := by simpa using hu
 obtain ⟨hd, hdd⟩ := up_both hu'
 rw [hd] at d4
 rw [hdd] at d5
 have hh := rhas_of hq.head s
 by_cases hs : m.has s = false
 ·have HE : Hid (m.read s = ([], 2)) := Lib.hid (by unfold DM.read; rw [if_neg hu, if_pos hs])
  rw [hs] at hh
  have HH := Lib.hid hh
  clear hh hu hu' hd hdd hs hq hlt
  go_enter Tryz.func175, Tryz.ntmps175
  go_wp2_with fail
  refine HH.out.mono ?_
  rintro e w1 ⟨rfl, rfl⟩
  go_wp2_with fail
  refine bodyPost_ret (v := .tuple #[.slice none 0 0, .int .i64 2]) (by simp [results, Tryz.results175, go_sem]) rfl ?_
  exact ⟨none, 0, 0, by rw [HE.out], by rw [HE.out]; exact By.nil_ _, Ext.refl _⟩
 have hs' : m.has s = true := by simpa using hs
 rw [hs'] at hh
 have HH := Lib.hid hh
 obtain ⟨s0, s1⟩ := DM.has_iff.1 hs'
 obtain ⟨j, rfl⟩ := Int.eq_ofNat_of_zero_le s0
 have hj : j < m.size := by omega
 obtain ⟨hlc, _, _⟩ := hq.lostAt hj
 obtain ⟨x0, hx0, hxc, _, _⟩ := hq.restAt hj
 have hsec0 : Sect (m.rest.getD j []) := by
  have hil : j < m.rest.length := hj
  rw [List.getD_eq_getElem?_getD, List.getElem?_eq_getElem hil, Option.getD_some]
  exact hq.ok.rests _ (List.getElem_mem hil)
 have HB0 := Lib.hid ((hq.rb j x0 hx0).2.by hsec0.2)
 have hsz := hq.head.n1.2
 unfold slV at hxc
 have HE : Hid (m.read (j : Int) = match lastW m.waits j with | some b => (b, 0) | none => if m.lost.getD j false = true then ([], 50) else (m.rest.getD j [], 0)) := Lib.hid (by unfold DM.read; rw [if_neg hu, if_neg hs, Int.toNat_natCast]; rfl)
 have HQ := Lib.hid hq
 obtain ⟨N, hN⟩ : ∃ N, m.waits.length = N := ⟨_, rfl⟩
 have HN := Lib.hid hN
 rw [hN] at hfew
 have hpl : ∃ A c, q.pv = .slice A N c := by
  obtain ⟨A, c, e, _, _⟩ := own_form2 hq.pen
  exact ⟨A, c, by rw [e, hN]⟩
 obtain ⟨pA, pc, hpv⟩ := hpl
 have HPV := Lib.hid hpv
 rw [hpv] at d3
 have HLI := Lib.hid (lastI_in m.waits j)
 clear hh hu hu' hd hdd hs hs' hq hlt hx0 hsec0 hN hpv
 go_enter Tryz.func175, Tryz.ntmps175
 go_wp2_with fail
 refine HH.out.mono ?_
 rintro e w1 ⟨rfl, rfl⟩
 go_wp2_with fail
 go_loopw [6, 7] (fun f i wr => ∃ k : Nat, k ≤ N ∧ i = .int .i64 k ∧ f = .int .i64 (lastI m.waits j k) ∧ wr = w) (fun _ i _ => N - (intOf i).toNat)
 case atStart => exact ⟨0, Nat.zero_le _, rfl, rfl, rfl⟩
 case round =>
  obtain ⟨k, hk, rfl, rfl, rfl⟩ := hrel
  by_cases hlt2 : k < N
  ·obtain ⟨g, c, x, y, e1, hx, hy, c0, c1, _⟩ := HQ.out.waitAt (k := k) (by rw [HN.out]; exact hlt2)
   have e2 := HPV.out.symm.trans e1
   injection e2 with e2 _ _
   subst e2
   have hgd : m.waits.getD k (0, []) = x := by rw [List.getD_eq_getElem?_getD, hx]; rfl
   have i0 : (0 : Int) ≤ (k : Int) := by omega
   have i1 : (k : Int) < (N : Int) := by omega
   by_cases hxs : x.1 = j
   ·have HL : Hid (lastI m.waits j (k + 1) = (k : Int)) := Lib.hid (by unfold lastI; rw [hgd, if_pos ⟨hxs, by rw [HN.out]; exact hlt2⟩])
    have heq : ((x.1 : Int) == (j : Int)) = true := by rw [beq_iff_eq, hxs]
    clear e1 hx hy hgd hxs c1
    go_wp2_with fail
    go_roundw
    case rel => exact ⟨k + 1, by omega, by go_num, by rw [HL.out], by first | rfl | trivial⟩
    case measure => simp [intOf]; omega
   ·have HL : Hid (lastI m.waits j (k + 1) = lastI m.waits j k) := Lib.hid (by show (if _ then _ else _) = _; rw [hgd, if_neg (fun h => hxs h.1)])
    have heq : ((x.1 : Int) == (j : Int)) = false := by
     rw [beq_eq_false_iff_ne]
     intro hc
     exact hxs (Int.ofNat.inj hc)
    clear e1 hx hy hgd hxs c1
    generalize lastI m.waits j k = li at *
    go_wp2_with fail
    go_roundw
    case rel => exact ⟨k + 1, by omega, by go_num, by rw [HL.out], by first | rfl | trivial⟩
    case measure => simp [intOf]; omega
  ·obtain rfl : k = N := by omega
   rcases HLI.out k (by rw [HN.out]; omega) with ⟨h1, h2⟩ | ⟨i, x, hi, h1, hx, h2⟩
   ·rw [h1]
    have hlw : lastW m.waits j = none := by rw [List.take_of_length_le (by rw [HN.out]; omega)] at h2; exact h2
    by_cases hlo : m.lost.getD j false = true
    ·have HE2 : Hid (m.read (j : Int) = ([], 50)) := Lib.hid (by rw [HE.out, hlw]; simp only; rw [if_pos hlo])
     rw [hlo] at hlc
     clear h1 h2 hlw hlo HE
     go_wp2_with fail
     refine bodyPost_ret (v := .tuple #[.slice none 0 0, .int .i64 50]) (by simp [results, Tryz.results175, go_sem]) rfl ?_
     exact ⟨none, 0, 0, by rw [HE2.out], by rw [HE2.out]; exact By.nil_ _, Ext.refl _⟩
    ·have HE2 : Hid (m.read (j : Int) = (m.rest.getD j [], 0)) := Lib.hid (by rw [HE.out, hlw]; simp only; rw [if_neg hlo])
     rw [show m.lost.getD j false = false by simpa using hlo] at hlc
     clear h1 h2 hlw hlo HE
     go_wp2_with fail
     refine (copy_by (some ⟨x0.1, 0, none⟩) (m.rest.getD j []) 64 x0.2 _ HB0.out (by omega)).mono ?_
     rintro e w2 ⟨A1, c1, rfl, hb, hx, _⟩
     have HB1 := Lib.hid hb
     have HX1 := Lib.hid hx
     clear hb hx
     go_wp2_with fail
     refine bodyPost_ret (v := .tuple #[.slice A1 64 c1, .int .i64 0]) (by simp [results, Tryz.results175, go_sem]) rfl ?_
     exact ⟨_, _, _, by rw [HE2.out], by rw [HE2.out]; exact HB1.out, HX1.out⟩
   ·rw [h1]
    have hlw : lastW m.waits j = some x.2 := by rw [List.take_of_length_le (by rw [HN.out]; omega)] at h2; exact h2
    obtain ⟨g, c, x', y, e1, hx', hy, c0, c1, _, hby, _, hsec⟩ := HQ.out.waitAt (k := i) (by rw [HN.out]; exact hi)
    obtain rfl : x' = x := by rw [hx] at hx'; injection hx' with h; exact h.symm
    have e2 := HPV.out.symm.trans e1
    injection e2 with e2 _ _
    subst e2
    unfold slV at c1
    have HB2 := Lib.hid (hby.by hsec.2)
    have HE2 : Hid (m.read (j : Int) = (x'.2, 0)) := Lib.hid (by rw [HE.out, hlw])
    have i0 : (0 : Int) ≤ (i : Int) := by omega
    have i1 : (i : Int) < (k : Int) := by omega
    clear h1 h2 hlw HE e1 hx hx' hy hby hsec
    go_wp2_with fail
    refine (copy_by (some ⟨y.1, 0, none⟩) x'.2 64 y.2 _ HB2.out (by omega)).mono ?_
    rintro e w2 ⟨A1, c2, rfl, hb, hx, _⟩
    have HB1 := Lib.hid hb
    have HX1 := Lib.hid hx
    clear hb hx
    go_wp2_with fail
    refine bodyPost_ret (v := .tuple #[.slice A1 64 c2, .int .i64 0]) (by simp [results, Tryz.results175, go_sem]) rfl ?_
    exact ⟨_, _, _, by rw [HE2.out], by rw [HE2.out]; exact HB1.out, HX1.out⟩
end
end
section
open Go Go.RowKit
theorem sl_info : (Tryz.prog.info? 45).map (fun i => (i.zero, i.size, i.bytes)) = some (some (.slice none 0 0), 1, 24) := by kernel_rfl
theorem bo_info : (Tryz.prog.info? 4).map (fun i => (i.zero, i.size, i.bytes)) = some (some (.bool false), 1, 1) := by kernel_rfl
def z64row : Obj := .cells (madeCells #[.int .u8 0] 64) 5
theorem mk64 (w : World) : (Instr.makeSlice 45 (.int .i64 64) (.int .i64 64)).run Tryz.prog w = .ok (.slice (some ⟨w.heap.size, 0, none⟩) 64 64) (w.alloc z64row) := by
 obtain ⟨i0, hi, hz0, hz1, hz2⟩ := info_parts byte_info
 have := run_make w 45 5 i0 (.int .u8 0) Tryz.underlying45 hi hz0 .i64 .i64 64 64 (by omega) (Int.le_refl _) (by rw [hz2]; omega) (by omega)
 rw [hz1] at this
 exact this
theorem zbyt (w : World) : Byt (w.alloc z64row) (w.heap.size, 64) z64 := by
 have h := World.ownsRow_lit (size := 1) (e := 5) w (madeCells #[.int .u8 0] 64) 64 (base := 0) (Nat.zero_le _) (by unfold maxLen; omega) (by rw [size_madeCells])
 rw [toList_madeCells_one] at h
 have e : vb z64 = List.replicate 64 (Value.int .u8 0) := by unfold z64 vb; rw [List.map_replicate]; rfl
 unfold Byt
 rw [e]
 exact h
structure NewAt (w wr : World) (d : Nat) (p : Nat → Nat) (vr vm vl : Value) (RB MB : List (Nat × Nat)) (a b c : Nat) : Prop where
 hd : wr.heap[d]? = some (.cells #[vr, vm, vl, .slice none 0 0, .bool false, .bool false, .int .i64 (-1)] 65 (0, 0))
 rr : wr.ownsRow 0 45 1 vr a (RB.map slV)
 rm : wr.ownsRow 0 45 1 vm b (MB.map slV)
 rl : wr.ownsRow 0 4 1 vl c (List.replicate c (.bool false))
 rb : ∀ (j : Nat) (x : Nat × Nat), RB[j]? = some x → p x.1 = 7 + j ∧ Byt wr x z64
 mb : ∀ (j : Nat) (x : Nat × Nat), MB[j]? = some x → p x.1 = 6 ∧ Byt wr x z64
 pd : p d = 1
 pr : ∀ k, vr.ownBlock = some k → p k = 2
 pm : ∀ k, vm.ownBlock = some k → p k = 3
 pl : ∀ k, vl.ownBlock = some k → p k = 4
 lt : ∀ k, p k ≠ 0 → w.heap.size ≤ k ∧ k < wr.heap.size
 ext : Ext w wr
section
variable {w wr w2 w4 : World} {d bk cap : Nat} {p : Nat → Nat} {vr vm vl : Value} {RB MB : List (Nat × Nat)} {a b c : Nat}
theorem NewAt.ext_ (h : NewAt w wr d p vr vm vl RB MB a b c) (k : Ext wr w2) : NewAt w w2 d p vr vm vl RB MB a b c :=
 ⟨(k.block d (Array.getElem?_eq_some_iff.1 h.hd).1).trans h.hd, own_mod (F := fun _ => False) h.rr (Mod.of_ext k) (fun _ _ h => h), own_mod (F := fun _ => False) h.rm (Mod.of_ext k) (fun _ _ h => h), own_mod (F := fun _ => False) h.rl (Mod.of_ext k) (fun _ _ h => h), fun j x hx => ⟨(h.rb j x hx).1, (h.rb j x hx).2.mod (F := fun _ => False) (Mod.of_ext k) fun h => h⟩, fun j x hx => ⟨(h.mb j x hx).1, (h.mb j x hx).2.mod (F := fun _ => False) (Mod.of_ext k) fun h => h⟩,
   h.pd, h.pr, h.pm, h.pl, fun i hi => ⟨(h.lt i hi).1, Nat.lt_of_lt_of_le (h.lt i hi).2 k.size⟩, h.ext.trans k⟩
theorem NewAt.dlt (h : NewAt w wr d p vr vm vl RB MB a b c) : d < wr.heap.size := (Array.getElem?_eq_some_iff.1 h.hd).1
theorem NewAt.grow (h : NewAt w wr d p vr vm vl RB MB a b c) {v0 : Value} {r : Nat} (h0 : ∀ k, v0.ownBlock = some k → p k = r) (hr : 2 ≤ r) (hg : wr.grownBy w4 v0.ownBlock) (hat : v0.ownBlock = some bk ∨ bk = wr.heap.size) (i : Nat) (v : Value) :
 Mod (fun k => k = d ∨ v0.ownBlock = some k) wr (w4.setCell ⟨d, i, none⟩ v) ∧ (∀ k, k < wr.heap.size → part p bk r k = p k) ∧ (∀ k r2, part p bk r k = r2 → r2 ≠ 1 → r2 ≠ r → k < wr.heap.size → ¬ (k = d ∨ v0.ownBlock = some k)) ∧ w4.heap[d]? = wr.heap[d]? ∧ bk ≠ d ∧ Ext w (w4.setCell ⟨d, i, none⟩ v) := by
 have hdp : ¬ v0.ownBlock = some d := fun e => by have := h0 d e; have := h.pd; omega
 have hpb : ∀ k, k < wr.heap.size → part p bk r k = p k := fun k hk => by
  unfold part
  split
  ·rename_i e
   subst e
   rcases hat with e | e
   ·exact (h0 _ e).symm
   ·omega
  ·rfl
 have k : Mod (fun k => k = d ∨ v0.ownBlock = some k) wr (w4.setCell ⟨d, i, none⟩ v) := ((Mod.refl _ wr).grown hg fun j hj => .inl (.inr hj)).setCell (p := ⟨d, i, none⟩) (.inl (.inl rfl)) _
 refine ⟨k, hpb, fun j r2 hj h1 h2 hjl e => ?_, hg.block d h.dlt (fun e => hdp e.symm), fun e => ?_, ?_⟩
 ·rw [hpb j hjl] at hj
  rcases e with e | e
  ·rw [e, h.pd] at hj; omega
  ·rw [h0 j e] at hj; omega
 ·rcases hat with e2 | e2
  ·rw [e] at e2; exact hdp e2
  ·have := h.dlt; omega
 ·have := h.ext
  refine Mod.to_ext (F := fun k => k = d ∨ v0.ownBlock = some k) ((Mod.of_ext this).trans k fun j hj => .inl hj) fun j hj => ?_
  rcases hj with e | e
  ·rw [e]; exact (h.lt d (by rw [h.pd]; omega)).1
  ·exact (h.lt j (by rw [h0 j e]; omega)).1
theorem NewAt.partlt (h : NewAt w wr d p vr vm vl RB MB a b c) {r i : Nat} {v : Value} (hw4 : wr.heap.size ≤ w4.heap.size) (hbk : bk < w4.heap.size) (hwb : w.heap.size ≤ bk) : ∀ k, part p bk r k ≠ 0 → w.heap.size ≤ k ∧ k < (w4.setCell ⟨d, i, none⟩ v).heap.size := fun k hk => by
 have hs : (w4.setCell ⟨d, i, none⟩ v).heap.size = w4.heap.size := by simp [World.setCell]
 rw [hs]
 rcases part_nz hk with rfl | hk
 ·exact ⟨hwb, hbk⟩
 ·have := h.lt k hk
  omega
theorem NewAt.stepR {z : Nat} (h : NewAt w wr d p vr vm vl RB MB a b c) (hz : Byt wr (z, 64) z64) (hp : p z = 7 + a) (hown : w4.ownsRow 0 45 1 (.slice (some ⟨bk, 0, none⟩) (a + 1) cap) (a + 1) (RB.map slV ++ [slV (z, 64)])) (hg : wr.grownBy w4 vr.ownBlock) (hat : vr.ownBlock = some bk ∨ bk = wr.heap.size) (hbk : bk < w4.heap.size) :
 NewAt w (w4.setCell ⟨d, 0, none⟩ (.slice (some ⟨bk, 0, none⟩) (a + 1) cap)) d (part p bk 2) (.slice (some ⟨bk, 0, none⟩) (a + 1) cap) vm vl (RB ++ [(z, 64)]) MB (a + 1) b c := by
 obtain ⟨k, hpb, ne, hd4, hbd, hx⟩ := h.grow (w4 := w4) (bk := bk) h.pr (by omega) hg hat 0 (.slice (some ⟨bk, 0, none⟩) (a + 1) cap)
 have hwb : w.heap.size ≤ bk := hat.elim (fun e => (h.lt bk (by rw [h.pr bk e]; omega)).1) fun e => by have := h.ext.size; omega
 have hRB : RB.length = a := by have := h.rr.1; rw [List.length_map] at this; omega
 have pz := fun (i : Nat) (hi : i < wr.heap.size) => hpb i hi
 refine ⟨row_set 0 (hd4.trans h.hd) _ rfl, ?_, own_mod h.rm k (fun i hi => ne i 3 ((pz i (h.rm.lt i hi).2).trans (h.pm i hi)) (by omega) (by omega) (h.rm.lt i hi).2), own_mod h.rl k (fun i hi => ne i 4 ((pz i (h.rl.lt i hi).2).trans (h.pl i hi)) (by omega) (by omega) (h.rl.lt i hi).2), ?_, ?_, (pz d h.dlt).trans h.pd, fun i hi => ?_, fun i hi => (pz i (h.rm.lt i hi).2).trans (h.pm i hi), fun i hi => (pz i (h.rl.lt i hi).2).trans (h.pl i hi), h.partlt hg.size hbk hwb, hx⟩
 ·rw [List.map_append]
  exact own_mod hown (mod_one w4 d 0 _) fun i hi => by
   injection hi with hi
   subst hi
   exact hbd
 ·intro j x hj
  rcases get_snoc hj with ⟨_, hj⟩ | ⟨hj2, rfl⟩
  ·have h1 := h.rb j x hj
   have h2 := (pz _ h1.2.lt).trans h1.1
   exact ⟨h2, h1.2.mod k (ne _ _ h2 (by omega) (by omega) h1.2.lt)⟩
  ·have h2 := (pz _ hz.lt).trans hp
   rw [hj2, hRB]
   exact ⟨h2, hz.mod k (ne _ _ h2 (by omega) (by omega) hz.lt)⟩
 ·intro j x hj
  have h1 := h.mb j x hj
  have h2 := (pz _ h1.2.lt).trans h1.1
  exact ⟨h2, h1.2.mod k (ne _ _ h2 (by omega) (by omega) h1.2.lt)⟩
 ·injection hi with hi
  subst hi
  exact part_at _ _ _
theorem NewAt.stepM {z : Nat} (h : NewAt w wr d p vr vm vl RB MB a b c) (hz : Byt wr (z, 64) z64) (hp : p z = 6) (hown : w4.ownsRow 0 45 1 (.slice (some ⟨bk, 0, none⟩) (b + 1) cap) (b + 1) (MB.map slV ++ [slV (z, 64)])) (hg : wr.grownBy w4 vm.ownBlock) (hat : vm.ownBlock = some bk ∨ bk = wr.heap.size) (hbk : bk < w4.heap.size) :
 NewAt w (w4.setCell ⟨d, 1, none⟩ (.slice (some ⟨bk, 0, none⟩) (b + 1) cap)) d (part p bk 3) vr (.slice (some ⟨bk, 0, none⟩) (b + 1) cap) vl RB (MB ++ [(z, 64)]) a (b + 1) c := by
 obtain ⟨k, hpb, ne, hd4, hbd, hx⟩ := h.grow (w4 := w4) (bk := bk) h.pm (by omega) hg hat 1 (.slice (some ⟨bk, 0, none⟩) (b + 1) cap)
 have hwb : w.heap.size ≤ bk := hat.elim (fun e => (h.lt bk (by rw [h.pm bk e]; omega)).1) fun e => by have := h.ext.size; omega
 have pz := fun (i : Nat) (hi : i < wr.heap.size) => hpb i hi
 refine ⟨row_set 1 (hd4.trans h.hd) _ rfl, own_mod h.rr k (fun i hi => ne i 2 ((pz i (h.rr.lt i hi).2).trans (h.pr i hi)) (by omega) (by omega) (h.rr.lt i hi).2), ?_, own_mod h.rl k (fun i hi => ne i 4 ((pz i (h.rl.lt i hi).2).trans (h.pl i hi)) (by omega) (by omega) (h.rl.lt i hi).2), ?_, ?_, (pz d h.dlt).trans h.pd, fun i hi => (pz i (h.rr.lt i hi).2).trans (h.pr i hi), fun i hi => ?_, fun i hi => (pz i (h.rl.lt i hi).2).trans (h.pl i hi), h.partlt hg.size hbk hwb, hx⟩
 ·rw [List.map_append]
  exact own_mod hown (mod_one w4 d 1 _) fun i hi => by
   injection hi with hi
   subst hi
   exact hbd
 ·intro j x hj
  have h1 := h.rb j x hj
  have h2 := (pz _ h1.2.lt).trans h1.1
  exact ⟨h2, h1.2.mod k (ne _ _ h2 (by omega) (by omega) h1.2.lt)⟩
 ·intro j x hj
  rcases get_snoc hj with ⟨_, hj⟩ | ⟨hj, rfl⟩
  ·have h1 := h.mb j x hj
   have h2 := (pz _ h1.2.lt).trans h1.1
   exact ⟨h2, h1.2.mod k (ne _ _ h2 (by omega) (by omega) h1.2.lt)⟩
  ·have h2 := (pz _ hz.lt).trans hp
   exact ⟨h2, hz.mod k (ne _ _ h2 (by omega) (by omega) hz.lt)⟩
 ·injection hi with hi
  subst hi
  exact part_at _ _ _
theorem NewAt.stepL (h : NewAt w wr d p vr vm vl RB MB a b c) (hown : w4.ownsRow 0 4 1 (.slice (some ⟨bk, 0, none⟩) (c + 1) cap) (c + 1) (List.replicate c (.bool false) ++ [.bool false])) (hg : wr.grownBy w4 vl.ownBlock) (hat : vl.ownBlock = some bk ∨ bk = wr.heap.size) (hbk : bk < w4.heap.size) :
 NewAt w (w4.setCell ⟨d, 2, none⟩ (.slice (some ⟨bk, 0, none⟩) (c + 1) cap)) d (part p bk 4) vr vm (.slice (some ⟨bk, 0, none⟩) (c + 1) cap) RB MB a b (c + 1) := by
 obtain ⟨k, hpb, ne, hd4, hbd, hx⟩ := h.grow (w4 := w4) (bk := bk) h.pl (by omega) hg hat 2 (.slice (some ⟨bk, 0, none⟩) (c + 1) cap)
 have hwb : w.heap.size ≤ bk := hat.elim (fun e => (h.lt bk (by rw [h.pl bk e]; omega)).1) fun e => by have := h.ext.size; omega
 have pz := fun (i : Nat) (hi : i < wr.heap.size) => hpb i hi
 refine ⟨row_set 2 (hd4.trans h.hd) _ rfl, own_mod h.rr k (fun i hi => ne i 2 ((pz i (h.rr.lt i hi).2).trans (h.pr i hi)) (by omega) (by omega) (h.rr.lt i hi).2), own_mod h.rm k (fun i hi => ne i 3 ((pz i (h.rm.lt i hi).2).trans (h.pm i hi)) (by omega) (by omega) (h.rm.lt i hi).2), ?_, ?_, ?_, (pz d h.dlt).trans h.pd, fun i hi => (pz i (h.rr.lt i hi).2).trans (h.pr i hi), fun i hi => (pz i (h.rm.lt i hi).2).trans (h.pm i hi), fun i hi => ?_, h.partlt hg.size hbk hwb, hx⟩
 ·rw [List.replicate_succ']
  exact own_mod hown (mod_one w4 d 2 _) fun i hi => by
   injection hi with hi
   subst hi
   exact hbd
 ·intro j x hj
  have h1 := h.rb j x hj
  have h2 := (pz _ h1.2.lt).trans h1.1
  exact ⟨h2, h1.2.mod k (ne _ _ h2 (by omega) (by omega) h1.2.lt)⟩
 ·intro j x hj
  have h1 := h.mb j x hj
  have h2 := (pz _ h1.2.lt).trans h1.1
  exact ⟨h2, h1.2.mod k (ne _ _ h2 (by omega) (by omega) h1.2.lt)⟩
 ·injection hi with hi
  subst hi
  exact part_at _ _ _
theorem NewAt.recast (h : NewAt w wr d p vr vm vl RB MB a b c) {p' : Nat → Nat} (hp : ∀ k, k < wr.heap.size → p' k = p k) (hl : ∀ k, p' k ≠ 0 → p k ≠ 0 ∨ (wr.heap.size ≤ k ∧ k < w2.heap.size)) (hx : Ext wr w2) : NewAt w w2 d p' vr vm vl RB MB a b c := by
 have e := h.ext_ hx
 refine ⟨e.hd, e.rr, e.rm, e.rl, fun j x hj => ⟨(hp _ (h.rb j x hj).2.lt).trans (h.rb j x hj).1, (e.rb j x hj).2⟩, fun j x hj => ⟨(hp _ (h.mb j x hj).2.lt).trans (h.mb j x hj).1, (e.mb j x hj).2⟩, (hp _ h.dlt).trans h.pd, fun i hi => (hp _ (h.rr.lt i hi).2).trans (h.pr i hi), fun i hi => (hp _ (h.rm.lt i hi).2).trans (h.pm i hi), fun i hi => (hp _ (h.rl.lt i hi).2).trans (h.pl i hi), fun i hi => ?_, e.ext⟩
 rcases hl i hi with h1 | h1
 ·exact e.lt i h1
 ·have := h.ext.size
  omega
theorem NewAt.done (h : NewAt w wr d p vr vm vl RB MB a a a) (h1 : 1 ≤ a) (h2 : a ≤ 1024) : RD wr d p (DM.new a) := by
 have form := fun {e : TypeId} {v : Value} {xs : List Value} (ho : wr.ownsRow 0 e 1 v a xs) => show ∃ g c, v = .slice (some ⟨g, 0, none⟩) a c by
  rcases ho.2 with ⟨_, h0⟩ | ⟨g, cap, cur, hv, _⟩
  ·omega
  ·exact ⟨g, cap, hv⟩
 obtain ⟨gr, cr, e1⟩ := form h.rr
 obtain ⟨gm, cm, e2⟩ := form h.rm
 obtain ⟨gl, cl, e3⟩ := form h.rl
 subst e1; subst e2; subst e3
 have hs : (DM.new a).size = a := by simp [DM.new, DM.size]
 have zr : ∀ j, j < a → (DM.new a).rest.getD j [] = z64 ∧ (DM.new a).meant.getD j [] = z64 := fun j hj => by
  show (List.replicate a z64).getD j [] = z64 ∧ (List.replicate a z64).getD j [] = z64
  rw [List.getD_eq_getElem?_getD, List.getElem?_replicate, if_pos hj]
  exact ⟨rfl, rfl⟩
 have hRB : RB.length = a := by have := h.rr.1; rw [List.length_map] at this; omega
 have hMB : MB.length = a := by have := h.rm.1; rw [List.length_map] at this; omega
 refine ⟨⟨{ gr := gr, gm := gm, gl := gl, cr := cr, cm := cm, cl := cl, pv := .slice none 0 0, RB := RB, MB := MB, WB := [] }, DM.new_ok a, ⟨by rw [hs]; exact h.hd, by rw [hs]; exact ⟨h1, h2⟩⟩, by rw [hs]; exact h.rr, by rw [hs]; exact h.rm, ?_, fun j x hx => ?_, fun j x hx => ?_, rfl, fun j x hx => (by simp at hx), World.ownsRow_nil _ _ _ _, h.pd, h.pr gr rfl, h.pm gm rfl, h.pl gl rfl, fun k hk => (by cases hk), by show (-1 : Int) ≤ _; omega⟩, fun k hk => (h.lt k hk).2⟩
 ·rw [hs]
  show wr.ownsRow 0 _ 1 _ a ((List.replicate a false).map .bool)
  rw [List.map_replicate]
  exact h.rl
 ·have hj : j < a := by rw [← hRB]; exact (List.getElem?_eq_some_iff.1 hx).1
  rw [(zr j hj).1]
  exact h.rb j x hx
 ·have hj : j < a := by rw [← hMB]; exact (List.getElem?_eq_some_iff.1 hx).1
  rw [(zr j hj).2]
  exact h.mb j x hx
end
end
section
open Go Go.RowKit
theorem rnew_no (s : Int) (w : World) (h : s < 1 ∨ 1024 < s) : Calls Tryz.prog 7 #[.int .i64 s] w fun e w' => ∃ a, e = .returned (.tuple #[.pointer (some a), .bool false]) ∧ Ext w w' := by
 have HX := Lib.hid ((Ext.refl w).alloc (.cells #[.slice none 0 0, .slice none 0 0, .slice none 0 0, .slice none 0 0, .bool false, .bool false, .int .i64 (-1)] 65))
 by_cases h1 : s < 1
 ·clear h
  go_enter Tryz.func7, Tryz.ntmps7
  go_wp2_with fail
  refine bodyPost_ret (v := .tuple #[.pointer (some ⟨w.heap.size, 0, none⟩), .bool false]) (by simp [results, Tryz.results7, go_sem]) rfl ?_
  first | exact ⟨_, rfl, HX.out⟩ | exact ⟨rfl, HX.out⟩ | exact ⟨by simp, HX.out⟩
 ·have h2 : 1024 < s := h.resolve_left h1
  clear h
  go_enter Tryz.func7, Tryz.ntmps7
  go_wp2_with fail
  refine bodyPost_ret (v := .tuple #[.pointer (some ⟨w.heap.size, 0, none⟩), .bool false]) (by simp [results, Tryz.results7, go_sem]) rfl ?_
  first | exact ⟨_, rfl, HX.out⟩ | exact ⟨rfl, HX.out⟩ | exact ⟨by simp, HX.out⟩
theorem two_cell (V : World) (o : Obj) (v : Value) (t : TypeId) : ∀ j u, ([v] : List Value)[j]? = some u → ((V.alloc o).alloc (.cells #[v] t)).drew.cell? ((⟨V.heap.size + 1, 0, none⟩ : Addr).add j) = some u := by
 intro j u hu
 show ((V.alloc o).alloc (.cells #[v] t)).cell? _ = _
 rw [Addr.add_lit, Nat.zero_add, show V.heap.size + 1 = (V.alloc o).heap.size by simp, World.cell?_alloc_new]
 exact (List.getElem?_toArray ..).trans hu
theorem one_cell (V : World) (v : Value) (t : TypeId) : ∀ j u, ([v] : List Value)[j]? = some u → (V.alloc (.cells #[v] t)).cell? ((⟨V.heap.size, 0, none⟩ : Addr).add j) = some u := by
 intro j u hu
 rw [Addr.add_lit, Nat.zero_add, World.cell?_alloc_new]
 exact (List.getElem?_toArray ..).trans hu
theorem oneSl (a c : Nat) : ∀ u ∈ ([.slice (some ⟨a, 0, none⟩) 64 c] : List Value), u.oneCell' = true := by
 intro u hu
 rw [List.mem_singleton.1 hu]
 rfl
theorem oneBo (b : Bool) : ∀ u ∈ ([.bool b] : List Value), u.oneCell' = true := by
 intro u hu
 rw [List.mem_singleton.1 hu]
 rfl
section
variable {w wr w4 : World} {d : Nat} {p : Nat → Nat} {vr vm vl : Value} {RB MB : List (Nat × Nat)} {a b c : Nat}
theorem NewAt.zero (h : NewAt w wr d p vr vm vl RB MB a b c) (r : Nat) (v : Value) (t : TypeId) : NewAt w ((wr.alloc z64row).alloc (.cells #[v] t)).drew d (part p wr.heap.size r) vr vm vl RB MB a b c ∧ Byt ((wr.alloc z64row).alloc (.cells #[v] t)).drew (wr.heap.size, 64) z64 := by
 have e : Ext wr ((wr.alloc z64row).alloc (.cells #[v] t)).drew := (((Ext.refl wr).alloc _).alloc _).drew
 refine ⟨h.recast (part_old (Nat.le_refl _)) (fun k hk => ?_) e, (zbyt wr).mod (F := fun _ => False) (Mod.of_ext (((Ext.refl _).alloc _).drew)) fun h => h⟩
 rcases part_nz hk with rfl | hk
 ·exact .inr ⟨Nat.le_refl _, by show wr.heap.size < ((wr.alloc z64row).alloc (.cells #[v] t)).heap.size; simp; omega⟩
 ·exact .inl hk
theorem NewAt.cellsAt (h : NewAt w wr d p vr vm vl RB MB a b c) {w2 : World} (k : Ext wr w2) : w2.cell? ⟨d, 0, none⟩ = some vr ∧ w2.cell? ⟨d, 1, none⟩ = some vm ∧ w2.cell? ⟨d, 2, none⟩ = some vl := by
 have h2 := (h.ext_ k).hd
 exact ⟨cell_of_row w2 d 0 _ _ _ h2, cell_of_row w2 d 1 _ _ _ h2, cell_of_row w2 d 2 _ _ _ h2⟩
theorem NewAt.afterG (h : NewAt w wr d p vr vm vl RB MB a b c) {v0 : Value} {r : Nat} (h0 : ∀ k, v0.ownBlock = some k → p k = r) (hr : 2 ≤ r) (hg : wr.grownBy w4 v0.ownBlock) : (w4.cell? ⟨d, 0, none⟩ = some vr ∧ w4.cell? ⟨d, 1, none⟩ = some vm ∧ w4.cell? ⟨d, 2, none⟩ = some vl) ∧ (∀ i, w4.frozen? ⟨d, i, none⟩ = false) ∧ d < w4.heap.size := by
 have hdp : ¬ v0.ownBlock = some d := fun e => by have := h0 d e; have := h.pd; omega
 have h2 := (hg.block d h.dlt (fun e => hdp e.symm)).trans h.hd
 exact ⟨⟨cell_of_row w4 d 0 _ _ _ h2, cell_of_row w4 d 1 _ _ _ h2, cell_of_row w4 d 2 _ _ _ h2⟩, fun i => frozen_of_row w4 d i _ _ h2, Nat.lt_of_lt_of_le h.dlt hg.size⟩
end
set_option maxHeartbeats 25600000 in
theorem rnew_yes (n : Nat) (w : World) (h1 : 1 ≤ n) (h2 : n ≤ 1024) : Calls Tryz.prog 7 #[.int .i64 (n : Int)] w fun e w' => ∃ d p, e = .returned (.tuple #[.pointer (some ⟨d, 0, none⟩), .bool true]) ∧ RD w' d p (DM.new n) ∧ (∀ k, p k ≠ 0 → w.heap.size ≤ k) ∧ Ext w w' := by
 have hst : NewAt w (w.alloc (.cells #[.slice none 0 0, .slice none 0 0, .slice none 0 0, .slice none 0 0, .bool false, .bool false, .int .i64 (-1)] 65)) w.heap.size (part (fun _ => 0) w.heap.size 1) (.slice none 0 0) (.slice none 0 0) (.slice none 0 0) [] [] 0 0 0 :=
  ⟨heap_alloc_new w _, World.ownsRow_nil _ _ _ _, World.ownsRow_nil _ _ _ _, World.ownsRow_nil _ _ _ _, fun j x hx => (by simp at hx), fun j x hx => (by simp at hx), part_at _ _ _, fun k hk => (by cases hk), fun k hk => (by cases hk), fun k hk => (by cases hk), fun k hk => by
   rcases part_nz hk with rfl | hk
   ·exact ⟨Nat.le_refl _, by simp⟩
   ·exact absurd rfl hk, (Ext.refl w).alloc _⟩
 have HST := Lib.hid hst
 have hmk := mk64
 clear hst
 go_enter Tryz.func7, Tryz.ntmps7
 go_wp2_with fail
 generalize hd0 : w.heap.size = d at *
 have HD0 := Lib.hid hd0
 clear hd0
 go_loopw [5] (fun i wr => ∃ (k : Nat) (p : Nat → Nat) (vr vm vl : Value) (RB MB : List (Nat × Nat)), k ≤ n ∧ i = .int .i64 k ∧ Hid (NewAt w wr d p vr vm vl RB MB k k k)) (fun i _ => n - (intOf i).toNat)
 case atStart => exact ⟨0, _, _, _, _, _, _, Nat.zero_le _, rfl, HST⟩
 case round =>
  obtain ⟨k, p, vr, vm, vl, RB, MB, hk, rfl, HN⟩ := hrel
  by_cases hlt : k < n
  ·have hz := (HN.out).zero (7 + k) (.slice (some ⟨wr.heap.size, 0, none⟩) 64 64) 45
   have HZ := Lib.hid hz
   have c0 := (HN.out.cellsAt (Ext.refl wr).drew).1
   have c1 := (HN.out.cellsAt (((Ext.refl wr).alloc z64row).drew)).1
   have c2 := (HN.out.cellsAt ((((Ext.refl wr).alloc z64row).alloc (.cells #[.slice (some ⟨wr.heap.size, 0, none⟩) 64 64] 45)).drew)).1
   have HNEWS := Lib.hid (two_cell wr z64row (.slice (some ⟨wr.heap.size, 0, none⟩) 64 64) 45)
   have HONE := Lib.hid (oneSl wr.heap.size 64)
   clear hz
   go_wp2_with fail
   go_region_law (first
    | (refine step_append_lies _ rfl _ _ 62 rfl 0 45 (Classical.choose (info_parts sl_info)) (.slice none 0 0) 1 24 Tryz.underlying62 (Classical.choose_spec (info_parts sl_info)).1 (Classical.choose_spec (info_parts sl_info)).2.1 (Classical.choose_spec (info_parts sl_info)).2.2.1 (Classical.choose_spec (info_parts sl_info)).2.2.2 rfl (by decide) vr k (RB.map slV) rfl HZ.out.1.rr ⟨wr.heap.size + 1, 0, none⟩ 1 1 [.slice (some ⟨wr.heap.size, 0, none⟩) 64 64] rfl rfl HNEWS.out HONE.out (by omega) (by unfold maxLen; omega) (by omega) (Nat.zero_le _) (wr.heap.size + 1 + 1) (by simp) ?_; intro bk cap w4 hown hgrow hat hlt4; have HG4 := Lib.hid hgrow; have HO4 := Lib.hid hown; have HT4 := Lib.hid hat; have HL4 := Lib.hid hlt4; obtain ⟨⟨g0, _, _⟩, gf, gl⟩ := HZ.out.1.afterG HZ.out.1.pr (by omega) hgrow; have gf0 := gf 0; clear hown hgrow hat))
   all_goals
    have hs2 : ((wr.alloc z64row).alloc (.cells #[.slice (some ⟨wr.heap.size, 0, none⟩) 64 64] 45)).drew.heap.size = wr.heap.size + 1 + 1 := by show ((wr.alloc z64row).alloc _).heap.size = _; simp
    have hN1 := HZ.out.1.stepR HZ.out.2 (part_at _ _ _) HO4.out HG4.out (HT4.out.imp id fun e => by rw [hs2]; exact e) HL4.out
    obtain ⟨X1, hX1⟩ : ∃ X, w4.setCell ⟨d, 0, none⟩ (.slice (some ⟨bk, 0, none⟩) (k + 1) cap) = X := ⟨_, rfl⟩
    rw [hX1] at hN1
    rw [hX1]
    obtain ⟨p1, vr1, RB1, HN1⟩ : ∃ p1 v R, Hid (NewAt w X1 d p1 v vm vl R MB (k + 1) k k) := ⟨_, _, _, Lib.hid hN1⟩
    have hz := (HN1.out).zero 6 (.slice (some ⟨X1.heap.size, 0, none⟩) 64 64) 45
    have HZ1 := Lib.hid hz
    have c0 := (HN1.out.cellsAt (Ext.refl X1).drew).2.1
    have c1 := (HN1.out.cellsAt (((Ext.refl X1).alloc z64row).drew)).2.1
    have c2 := (HN1.out.cellsAt ((((Ext.refl X1).alloc z64row).alloc (.cells #[.slice (some ⟨X1.heap.size, 0, none⟩) 64 64] 45)).drew)).2.1
    have HNEWS := Lib.hid (two_cell X1 z64row (.slice (some ⟨X1.heap.size, 0, none⟩) 64 64) 45)
    have HONE := Lib.hid (oneSl X1.heap.size 64)
    clear hz hN1 hX1 hs2 g0 gf gf0 gl HG4 HO4 HT4 HL4 hlt4 HZ HN
    go_wp2_with fail
    go_region_law (first
     | (refine step_append_lies _ rfl _ _ 62 rfl 0 45 (Classical.choose (info_parts sl_info)) (.slice none 0 0) 1 24 Tryz.underlying62 (Classical.choose_spec (info_parts sl_info)).1 (Classical.choose_spec (info_parts sl_info)).2.1 (Classical.choose_spec (info_parts sl_info)).2.2.1 (Classical.choose_spec (info_parts sl_info)).2.2.2 rfl (by decide) vm k (MB.map slV) rfl HZ1.out.1.rm ⟨X1.heap.size + 1, 0, none⟩ 1 1 [.slice (some ⟨X1.heap.size, 0, none⟩) 64 64] rfl rfl HNEWS.out HONE.out (by omega) (by unfold maxLen; omega) (by omega) (Nat.zero_le _) (X1.heap.size + 1 + 1) (by simp) ?_; intro bk2 cap2 w5 hown hgrow hat hlt5; have HG5 := Lib.hid hgrow; have HO5 := Lib.hid hown; have HT5 := Lib.hid hat; have HL5 := Lib.hid hlt5; obtain ⟨⟨_, g1, _⟩, gf, gl⟩ := HZ1.out.1.afterG HZ1.out.1.pm (by omega) hgrow; have gf0 := gf 1; clear hown hgrow hat))
    all_goals
     have hs2 : ((X1.alloc z64row).alloc (.cells #[.slice (some ⟨X1.heap.size, 0, none⟩) 64 64] 45)).drew.heap.size = X1.heap.size + 1 + 1 := by show ((X1.alloc z64row).alloc _).heap.size = _; simp
     have hN2 := HZ1.out.1.stepM HZ1.out.2 (part_at _ _ _) HO5.out HG5.out (HT5.out.imp id fun e => by rw [hs2]; exact e) HL5.out
     obtain ⟨X2, hX2⟩ : ∃ X, w5.setCell ⟨d, 1, none⟩ (.slice (some ⟨bk2, 0, none⟩) (k + 1) cap2) = X := ⟨_, rfl⟩
     rw [hX2] at hN2
     rw [hX2]
     obtain ⟨p2, vm2, MB2, HN2⟩ : ∃ p2 v R, Hid (NewAt w X2 d p2 vr1 v vl RB1 R (k + 1) (k + 1) k) := ⟨_, _, _, Lib.hid hN2⟩
     have c0 := (HN2.out.cellsAt (Ext.refl X2)).2.2
     have c1 := (HN2.out.cellsAt ((Ext.refl X2).alloc (.cells #[.bool false] 4))).2.2
     have HN3 := Lib.hid (HN2.out.ext_ ((Ext.refl X2).alloc (.cells #[.bool false] 4)))
     obtain ⟨bi, bh, bz0, bz1, bz2⟩ := info_parts bo_info
     have HNEWS := Lib.hid (one_cell X2 (.bool false) 4)
     have HONE := Lib.hid (oneBo false)
     clear hN2 hX2 hs2 g1 gf gf0 gl HG5 HO5 HT5 HL5 hlt5 HZ1 HN1
     go_wp2_with (at_builtin; refine wpList_append_lies _ rfl _ _ 46 rfl 0 4 bi (.bool false) 1 1 Tryz.underlying46 bh bz0 bz1 bz2 rfl (by decide) vl k (List.replicate k (.bool false)) rfl HN3.out.rl ⟨X2.heap.size, 0, none⟩ 1 1 [.bool false] rfl rfl HNEWS.out HONE.out (by omega) (by unfold maxLen; omega) (by omega) (Nat.zero_le _) (X2.heap.size + 1) (by simp) ?_; intro bk3 cap3 w6 hown hgrow hat hlt6; have HG6 := Lib.hid hgrow; have HO6 := Lib.hid hown; have HT6 := Lib.hid hat; have HL6 := Lib.hid hlt6; obtain ⟨⟨_, _, g2⟩, gf, gl⟩ := HN3.out.afterG HN3.out.pl (by omega) hgrow; have gf0 := gf 2; clear hown hgrow hat)
     all_goals
      have hs2 : (X2.alloc (.cells #[.bool false] 4)).heap.size = X2.heap.size + 1 := by simp
      have hN4 := HN3.out.stepL HO6.out HG6.out (HT6.out.imp id fun e => by rw [hs2]; exact e) HL6.out
      have HN4 := Lib.hid hN4
      clear hN4 hs2 g2 gf gf0 gl HG6 HO6 HT6 HL6 hlt6 HN3 HN2 c0 c1 c2
      go_wp2_with fail
      go_roundw
      case rel => exact ⟨k + 1, _, _, _, _, _, _, by omega, by go_num, HN4⟩
      case measure => simp [intOf]; omega
  ·obtain rfl : k = n := by omega
   have HDN := Lib.hid (HN.out.done h1 h2)
   go_wp2_with fail
   refine bodyPost_ret (v := .tuple #[.pointer (some ⟨d, 0, none⟩), .bool true]) (by simp [results, Tryz.results7, go_sem]) rfl ?_
   exact ⟨_, _, rfl, HDN.out, fun i hi => by have := (HN.out.lt i hi).1; have := HD0.out; omega, HN.out.ext⟩
end
section
open Go Go.RowKit
theorem keepAt {w wr : World} {A : Option Addr} {n c : Nat} {l : List Bool} {F : Nat → Prop} (h : Vs w w.heap.size A n c (l.map .bool)) (k : Mod F w wr) (ho : 0 < n → Off F A) {i : Nat} (hi : i < n) : ∃ g o b, A = some ⟨g, o, none⟩ ∧ l[i]? = some b ∧ wr.cell? ⟨g, o + i, none⟩ = some (.bool b) := by
 obtain ⟨g, o, e, hg, hc⟩ := h.rd (by omega)
 have hl : i < l.length := by have := h.len; rw [List.length_map] at this; omega
 refine ⟨g, o, l[i], e, List.getElem?_eq_getElem hl, ?_⟩
 rw [World.cell?_of_block (a := ⟨g, o + i, none⟩) (k.block g hg (ho (by omega) _ e))]
 exact hc i _ (by rw [List.getElem?_map, List.getElem?_eq_getElem hl]; rfl)
theorem kept_over {l : List (Nat × List Nat)} {kl : List Bool} : ∀ {k : Nat}, kl.length ≤ k → k ≤ l.length → kept (l.take k) kl = kept l kl := by
 intro k hk hl
 have key : ∀ j, k + j ≤ l.length → kept (l.take (k + j)) kl = kept (l.take k) kl := fun j => by
  induction j with
  | zero => intro _; rfl
  | succ j ih =>
   intro hj
   obtain ⟨x, hx⟩ : ∃ x, l[k + j]? = some x := ⟨_, List.getElem?_eq_getElem (by omega)⟩
   rw [show k + (j + 1) = (k + j) + 1 by omega, kept_step hx, if_neg (by rw [List.getElem?_eq_none (by omega)]; simp), ih (by omega)]
 have := key (l.length - k) (by omega)
 rw [show k + (l.length - k) = l.length by omega, List.take_length] at this
 exact this.symm
section
variable {w : World} {d : Nat} {p : Nat → Nat} {m : DM}
set_option maxHeartbeats 2400000 in
theorem rcrash_out (h : RD w d p m) (_hfew : m.waits.length ≤ 1000000) (kA : Option Addr) (kn kc : Nat) (kl : List Bool) (hk : Vs w w.heap.size kA kn kc (kl.map .bool)) (ho : 0 < kn → Off (fun i => p i ≠ 0) kA) : Calls Tryz.prog 140 #[.pointer (some ⟨d, 0, none⟩), .slice kA kn kc] w fun e w' => e = .returned (.int .i64 (m.crash kl).1) ∧ ROut d p w (m.crash kl).2 w' := by
 obtain ⟨⟨q, hq⟩, hlt⟩ := h
 obtain ⟨⟨_, _, _, d3, d4, d5, _⟩, _⟩ := hq.head.cells
 have HQ := Lib.hid hq
 have HLT := Lib.hid hlt
 have hkl : kl.length = kn := by have := hk.len; rw [List.length_map] at this; exact this
 have hkc := hk.cap
 have hkm := hk.most
 by_cases hd : m.down = true
 ·have HE : Hid (m.crash kl = (5, m)) := Lib.hid (by unfold DM.crash; rw [if_pos hd])
  rw [hd] at d4
  clear hd hq hlt
  go_enter Tryz.func140, Tryz.ntmps140
  go_wp2_with fail
  go_ret
  rw [HE.out]
  exact ⟨rfl, p, ⟨⟨q, HQ.out⟩, HLT.out⟩, Mod.refl _ _, fun k hk => .inl hk⟩
 ·have HE : Hid (m.crash kl = (0, { m.comes (kept m.waits kl) with waits := [], down := true })) := Lib.hid (by unfold DM.crash; rw [if_neg hd])
  have hd' : m.down = false := by simpa using hd
  rw [hd'] at d4
  have HG1 : Hid (RGo w w d p p m) := Lib.hid ⟨⟨⟨q, hq⟩, hlt⟩, Mod.refl _ _, fun k hk => .inl hk⟩
  have HK := Lib.hid hk
  have HO := Lib.hid ho
  have HKL := Lib.hid hkl
  obtain ⟨N, hN⟩ : ∃ N, m.waits.length = N := ⟨_, rfl⟩
  have HN := Lib.hid hN
  rw [hN] at _hfew
  have HDN := Lib.hid hd'
  clear hd hd' hq hlt hN hk ho hkl d3
  go_enter Tryz.func140, Tryz.ntmps140
  go_wp2_with fail
  go_loopw [5] (fun i wr => ∃ (k : Nat) (p' : Nat → Nat), k ≤ N ∧ k ≤ kn ∧ i = .int .i64 k ∧ Hid (RGo w wr d p p' (m.comes (kept (m.waits.take k) kl)))) (fun i _ => N - (intOf i).toNat)
  case atStart => exact ⟨0, p, Nat.zero_le _, Nat.zero_le _, rfl, Lib.hid (by rw [show kept (m.waits.take 0) kl = [] by simp [kept]]; exact HG1.out)⟩
  case round =>
   obtain ⟨k, p', hk, hkn, rfl, HG⟩ := hrel
   obtain ⟨⟨q', hq'⟩, hlt'⟩ := HG.out.rd
   have hcw := DM.comes_waits (kept (m.waits.take k) kl) m
   have hwl : (m.comes (kept (m.waits.take k) kl)).waits.length = N := by rw [hcw.1, HN.out]
   obtain ⟨⟨_, _, _, e3, e4, _⟩, ef⟩ := hq'.head.cells
   have ef3 := ef 3
   have ef4 := ef 4
   have hpl : ∃ A c, q'.pv = .slice A N c := by
    obtain ⟨A, c, e, _, _⟩ := own_form2 hq'.pen
    exact ⟨A, c, by rw [e, hwl]⟩
   obtain ⟨pA, pc, hpv⟩ := hpl
   by_cases hlt2 : k < N ∧ k < kn
   ·obtain ⟨hN2, hK2⟩ := hlt2
    obtain ⟨g, c, x, y, e1, hx, hy, c0, c1, h6, hby, hxs, hsec⟩ := hq'.waitAt (k := k) (by omega)
    rw [e1, hwl] at e3
    have hx' : m.waits[k]? = some x := by rw [hcw.1] at hx; exact hx
    obtain ⟨g2, o2, b, rfl, hb, hbc⟩ := keepAt HK.out HG.out.mod HO.out hK2
    have hst := kept_step hx' kl
    unfold slV at c1
    have i0 : (0 : Int) ≤ (k : Int) := by omega
    have i1 : (k : Int) < (N : Int) := by omega
    have i2 : (k : Int) < (kn : Int) := by omega
    cases b with
    | true =>
     have HC := Lib.hid (rcome_wait hq' hlt' h6 hby hxs hsec)
     have HX := Lib.hid (show m.comes (kept (m.waits.take (k + 1)) kl) = (m.comes (kept (m.waits.take k) kl)).come x by rw [hst, if_pos hb, comes_snoc])
     clear hq' hlt' hcw hwl ef ef3 ef4 hpv e1 hx hy h6 hby hxs hsec hx' hb hst e4
     go_wp2_with fail
     refine HC.out.mono ?_
     rintro e w2 ⟨⟨v, rfl⟩, hr⟩
     obtain ⟨p2, hg2⟩ := HG.out.step hr
     have HG2 := Lib.hid hg2
     clear hr hg2
     go_wp2_with fail
     go_roundw
     case rel => exact ⟨k + 1, p2, by omega, by omega, by go_num, by rw [HX.out]; exact HG2⟩
     case measure => simp [intOf]; omega
    | false =>
     have HX := Lib.hid (show m.comes (kept (m.waits.take (k + 1)) kl) = m.comes (kept (m.waits.take k) kl) by rw [hst, if_neg (by rw [hb]; simp)])
     clear hq' hlt' hcw hwl ef ef3 ef4 hpv e1 hx hy h6 hby hxs hsec hx' hb hst e4
     go_wp2_with fail
     go_roundw
     case rel => exact ⟨k + 1, p', by omega, by omega, by go_num, by rw [HX.out]; exact HG⟩
     case measure => simp [intOf]; omega
   ·have HT : Hid (kept (m.waits.take k) kl = kept m.waits kl) := Lib.hid (by
     by_cases hkN : k < N
     ·exact kept_over (by rw [HKL.out]; omega) (by rw [HN.out]; omega)
     ·rw [List.take_of_length_le (by rw [HN.out]; omega)])
    have HQ' := Lib.hid hq'
    have HL' := Lib.hid hlt'
    have hld := hq'.lts.1
    rw [hpv] at e3
    have e4' : wr.cell? ⟨d, 4, none⟩ = some (.bool false) := by rw [e4, hcw.2.1, HDN.out]
    have fin : ROut d p w { m.comes (kept m.waits kl) with waits := [], down := true } ((wr.setCell ⟨d, 3, none⟩ (.slice none 0 0)).setCell ⟨d, 4, none⟩ (.bool true)) := by
     have hq2 := HQ'.out
     have hg2 := HG.out
     rw [HT.out] at hq2 hg2
     have kk : Mod (fun i => i = d) wr ((wr.setCell ⟨d, 3, none⟩ (.slice none 0 0)).setCell ⟨d, 4, none⟩ (.bool true)) := (mod_one wr d 3 (.slice none 0 0)).setCell (p := ⟨d, 4, none⟩) (.inl rfl) _
     refine ⟨p', ⟨⟨_, hq2.clear kk ⟨row_set 4 (row_set 3 hq2.head.head _ rfl) _ rfl, hq2.head.n1⟩ rfl rfl rfl rfl rfl⟩, fun i hi => by have := HL'.out i hi; simpa [World.setCell] using this⟩, hg2.mod.trans kk (fun i hi => ?_), hg2.nz⟩
     rw [hi]
     exact .inl (by rw [HQ.out.pd]; omega)
    have HF := Lib.hid fin
    clear hq' hlt' hcw hwl ef hpv e4 fin
    by_cases hkN : k < N
    ·have hkn2 : ¬ k < kn := fun h => hlt2 ⟨hkN, h⟩
     clear hlt2
     go_wp2_with fail
     go_ret
     rw [HE.out]
     exact ⟨rfl, HF.out⟩
    ·clear hlt2
     go_wp2_with fail
     go_ret
     rw [HE.out]
     exact ⟨rfl, HF.out⟩
end
end
end Go.Proofs.YtmpaocpgoihliaaGreatDoor

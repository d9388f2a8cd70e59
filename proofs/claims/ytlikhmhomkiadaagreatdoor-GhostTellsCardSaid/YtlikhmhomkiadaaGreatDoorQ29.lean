/-
  The document's disk: New.
  The contract of the document's New.
-/
import Derived.Test.YtlikhmhomkiadaaGreatDoorQ28
namespace Go.Proofs.YtlikhmhomkiadaaGreatDoor
set_option maxRecDepth 100000
open Go Go.RowKit

theorem sl_info : (Tryz.prog.info? 34).map (fun i => (i.zero, i.size, i.bytes)) = some (some (.slice none 0 0), 1, 24) := by kernel_rfl
theorem bo_info : (Tryz.prog.info? 4).map (fun i => (i.zero, i.size, i.bytes)) = some (some (.bool false), 1, 1) := by kernel_rfl
def z64row : Obj := .cells (madeCells #[.int .u8 0] 64) 5
theorem mk64 (w : World) : (Instr.makeSlice 34 (.int .i64 64) (.int .i64 64)).run Tryz.prog w = .ok (.slice (some ⟨w.heap.size, 0, none⟩) 64 64) (w.alloc z64row) := by
  obtain ⟨i0, hi, hz0, hz1, hz2⟩ := info_parts byte_info
  have := run_make w 34 5 i0 (.int .u8 0) Tryz.underlying34 hi hz0 .i64 .i64 64 64 (by omega) (Int.le_refl _) (by rw [hz2]; omega) (by omega)
  rw [hz1] at this
  exact this
theorem zbyt (w : World) : Byt (w.alloc z64row) (w.heap.size, 64) z64 := by
  have h := World.ownsRow_lit (size := 1) (e := 5) w (madeCells #[.int .u8 0] 64) 64 (base := 0) (Nat.zero_le _) (by unfold maxLen; omega) (by rw [size_madeCells])
  rw [toList_madeCells_one] at h
  have e : vb z64 = List.replicate 64 (Value.int .u8 0) := by unfold z64 vb; rw [List.map_replicate]; rfl
  unfold Byt
  rw [e]
  exact h

/-- The document's disk while it is being made: so many sectors at rest, meant, lost. -/
structure NewAt (w wr : World) (d : Nat) (p : Nat → Nat) (vr vm vl : Value) (RB MB : List (Nat × Nat)) (a b c : Nat) : Prop where
  hd : wr.heap[d]? = some (.cells #[vr, vm, vl, .slice none 0 0, .bool false, .bool false, .int .i64 (-1)] 95 (0, 0))
  rr : wr.ownsRow 0 34 1 vr a (RB.map slV)
  rm : wr.ownsRow 0 34 1 vm b (MB.map slV)
  rl : wr.ownsRow 0 4 1 vl c (List.replicate c (.bool false))
  rb : ∀ (j : Nat) (x : Nat × Nat), RB[j]? = some x → p x.1 = 7 + j ∧ Byt wr x z64
  mb : ∀ (j : Nat) (x : Nat × Nat), MB[j]? = some x → p x.1 = 6 ∧ Byt wr x z64
  pd : p d = 1
  pr : ∀ k, vr.ownBlock = some k → p k = 2
  pm : ∀ k, vm.ownBlock = some k → p k = 3
  pl : ∀ k, vl.ownBlock = some k → p k = 4
  lt : ∀ k, p k ≠ 0 → w.heap.size ≤ k ∧ k < wr.heap.size
  ext : Ext w wr
section
variable {w wr w2 w4 : World} {d bk cap : Nat} {p : Nat → Nat} {vr vm vl : Value} {RB MB : List (Nat × Nat)} {a b c : Nat}
theorem NewAt.ext_ (h : NewAt w wr d p vr vm vl RB MB a b c) (k : Ext wr w2) : NewAt w w2 d p vr vm vl RB MB a b c :=
  ⟨(k.block d (Array.getElem?_eq_some_iff.1 h.hd).1).trans h.hd, own_mod (F := fun _ => False) h.rr (Mod.of_ext k) (fun _ _ h => h), own_mod (F := fun _ => False) h.rm (Mod.of_ext k) (fun _ _ h => h), own_mod (F := fun _ => False) h.rl (Mod.of_ext k) (fun _ _ h => h), fun j x hx => ⟨(h.rb j x hx).1, (h.rb j x hx).2.mod (F := fun _ => False) (Mod.of_ext k) fun h => h⟩, fun j x hx => ⟨(h.mb j x hx).1, (h.mb j x hx).2.mod (F := fun _ => False) (Mod.of_ext k) fun h => h⟩,
    h.pd, h.pr, h.pm, h.pl, fun i hi => ⟨(h.lt i hi).1, Nat.lt_of_lt_of_le (h.lt i hi).2 k.size⟩, h.ext.trans k⟩
theorem NewAt.dlt (h : NewAt w wr d p vr vm vl RB MB a b c) : d < wr.heap.size := (Array.getElem?_eq_some_iff.1 h.hd).1
/-- A row of the disk's that grows by one: what stays. -/
theorem NewAt.grow (h : NewAt w wr d p vr vm vl RB MB a b c) {v0 : Value} {r : Nat} (h0 : ∀ k, v0.ownBlock = some k → p k = r) (hr : 2 ≤ r) (hg : wr.grownBy w4 v0.ownBlock) (hat : v0.ownBlock = some bk ∨ bk = wr.heap.size) (i : Nat) (v : Value) :
    Mod (fun k => k = d ∨ v0.ownBlock = some k) wr (w4.setCell ⟨d, i, none⟩ v) ∧ (∀ k, k < wr.heap.size → part p bk r k = p k) ∧ (∀ k r2, part p bk r k = r2 → r2 ≠ 1 → r2 ≠ r → k < wr.heap.size → ¬ (k = d ∨ v0.ownBlock = some k)) ∧ w4.heap[d]? = wr.heap[d]? ∧ bk ≠ d ∧ Ext w (w4.setCell ⟨d, i, none⟩ v) := by
  have hdp : ¬ v0.ownBlock = some d := fun e => by have := h0 d e; have := h.pd; omega
  have hpb : ∀ k, k < wr.heap.size → part p bk r k = p k := fun k hk => by
    unfold part
    split
    · rename_i e
      subst e
      rcases hat with e | e
      · exact (h0 _ e).symm
      · omega
    · rfl
  have k : Mod (fun k => k = d ∨ v0.ownBlock = some k) wr (w4.setCell ⟨d, i, none⟩ v) := ((Mod.refl _ wr).grown hg fun j hj => .inl (.inr hj)).setCell (p := ⟨d, i, none⟩) (.inl (.inl rfl)) _
  refine ⟨k, hpb, fun j r2 hj h1 h2 hjl e => ?_, hg.block d h.dlt (fun e => hdp e.symm), fun e => ?_, ?_⟩
  · rw [hpb j hjl] at hj
    rcases e with e | e
    · rw [e, h.pd] at hj; omega
    · rw [h0 j e] at hj; omega
  · rcases hat with e2 | e2
    · rw [e] at e2; exact hdp e2
    · have := h.dlt; omega
  · have := h.ext
    refine Mod.to_ext (F := fun k => k = d ∨ v0.ownBlock = some k) ((Mod.of_ext this).trans k fun j hj => .inl hj) fun j hj => ?_
    rcases hj with e | e
    · rw [e]; exact (h.lt d (by rw [h.pd]; omega)).1
    · exact (h.lt j (by rw [h0 j e]; omega)).1
theorem NewAt.partlt (h : NewAt w wr d p vr vm vl RB MB a b c) {r i : Nat} {v : Value} (hw4 : wr.heap.size ≤ w4.heap.size) (hbk : bk < w4.heap.size) (hwb : w.heap.size ≤ bk) : ∀ k, part p bk r k ≠ 0 → w.heap.size ≤ k ∧ k < (w4.setCell ⟨d, i, none⟩ v).heap.size := fun k hk => by
  have hs : (w4.setCell ⟨d, i, none⟩ v).heap.size = w4.heap.size := by simp [World.setCell]
  rw [hs]
  rcases part_nz hk with rfl | hk
  · exact ⟨hwb, hbk⟩
  · have := h.lt k hk
    omega
theorem NewAt.stepR {z : Nat} (h : NewAt w wr d p vr vm vl RB MB a b c) (hz : Byt wr (z, 64) z64) (hp : p z = 7 + a) (hown : w4.ownsRow 0 34 1 (.slice (some ⟨bk, 0, none⟩) (a + 1) cap) (a + 1) (RB.map slV ++ [slV (z, 64)])) (hg : wr.grownBy w4 vr.ownBlock) (hat : vr.ownBlock = some bk ∨ bk = wr.heap.size) (hbk : bk < w4.heap.size) :
    NewAt w (w4.setCell ⟨d, 0, none⟩ (.slice (some ⟨bk, 0, none⟩) (a + 1) cap)) d (part p bk 2) (.slice (some ⟨bk, 0, none⟩) (a + 1) cap) vm vl (RB ++ [(z, 64)]) MB (a + 1) b c := by
  obtain ⟨k, hpb, ne, hd4, hbd, hx⟩ := h.grow (w4 := w4) (bk := bk) h.pr (by omega) hg hat 0 (.slice (some ⟨bk, 0, none⟩) (a + 1) cap)
  have hwb : w.heap.size ≤ bk := hat.elim (fun e => (h.lt bk (by rw [h.pr bk e]; omega)).1) fun e => by have := h.ext.size; omega
  have hRB : RB.length = a := by have := h.rr.1; rw [List.length_map] at this; omega
  have pz := fun (i : Nat) (hi : i < wr.heap.size) => hpb i hi
  refine ⟨row_set 0 (hd4.trans h.hd) _ rfl, ?_, own_mod h.rm k (fun i hi => ne i 3 ((pz i (h.rm.lt i hi).2).trans (h.pm i hi)) (by omega) (by omega) (h.rm.lt i hi).2), own_mod h.rl k (fun i hi => ne i 4 ((pz i (h.rl.lt i hi).2).trans (h.pl i hi)) (by omega) (by omega) (h.rl.lt i hi).2), ?_, ?_, (pz d h.dlt).trans h.pd, fun i hi => ?_, fun i hi => (pz i (h.rm.lt i hi).2).trans (h.pm i hi), fun i hi => (pz i (h.rl.lt i hi).2).trans (h.pl i hi), h.partlt hg.size hbk hwb, hx⟩
  · rw [List.map_append]
    exact own_mod hown (mod_one w4 d 0 _) fun i hi => by
      injection hi with hi
      subst hi
      exact hbd
  · intro j x hj
    rcases get_snoc hj with ⟨_, hj⟩ | ⟨hj2, rfl⟩
    · have h1 := h.rb j x hj
      have h2 := (pz _ h1.2.lt).trans h1.1
      exact ⟨h2, h1.2.mod k (ne _ _ h2 (by omega) (by omega) h1.2.lt)⟩
    · have h2 := (pz _ hz.lt).trans hp
      rw [hj2, hRB]
      exact ⟨h2, hz.mod k (ne _ _ h2 (by omega) (by omega) hz.lt)⟩
  · intro j x hj
    have h1 := h.mb j x hj
    have h2 := (pz _ h1.2.lt).trans h1.1
    exact ⟨h2, h1.2.mod k (ne _ _ h2 (by omega) (by omega) h1.2.lt)⟩
  · injection hi with hi
    subst hi
    exact part_at _ _ _
theorem NewAt.stepM {z : Nat} (h : NewAt w wr d p vr vm vl RB MB a b c) (hz : Byt wr (z, 64) z64) (hp : p z = 6) (hown : w4.ownsRow 0 34 1 (.slice (some ⟨bk, 0, none⟩) (b + 1) cap) (b + 1) (MB.map slV ++ [slV (z, 64)])) (hg : wr.grownBy w4 vm.ownBlock) (hat : vm.ownBlock = some bk ∨ bk = wr.heap.size) (hbk : bk < w4.heap.size) :
    NewAt w (w4.setCell ⟨d, 1, none⟩ (.slice (some ⟨bk, 0, none⟩) (b + 1) cap)) d (part p bk 3) vr (.slice (some ⟨bk, 0, none⟩) (b + 1) cap) vl RB (MB ++ [(z, 64)]) a (b + 1) c := by
  obtain ⟨k, hpb, ne, hd4, hbd, hx⟩ := h.grow (w4 := w4) (bk := bk) h.pm (by omega) hg hat 1 (.slice (some ⟨bk, 0, none⟩) (b + 1) cap)
  have hwb : w.heap.size ≤ bk := hat.elim (fun e => (h.lt bk (by rw [h.pm bk e]; omega)).1) fun e => by have := h.ext.size; omega
  have pz := fun (i : Nat) (hi : i < wr.heap.size) => hpb i hi
  refine ⟨row_set 1 (hd4.trans h.hd) _ rfl, own_mod h.rr k (fun i hi => ne i 2 ((pz i (h.rr.lt i hi).2).trans (h.pr i hi)) (by omega) (by omega) (h.rr.lt i hi).2), ?_, own_mod h.rl k (fun i hi => ne i 4 ((pz i (h.rl.lt i hi).2).trans (h.pl i hi)) (by omega) (by omega) (h.rl.lt i hi).2), ?_, ?_, (pz d h.dlt).trans h.pd, fun i hi => (pz i (h.rr.lt i hi).2).trans (h.pr i hi), fun i hi => ?_, fun i hi => (pz i (h.rl.lt i hi).2).trans (h.pl i hi), h.partlt hg.size hbk hwb, hx⟩
  · rw [List.map_append]
    exact own_mod hown (mod_one w4 d 1 _) fun i hi => by
      injection hi with hi
      subst hi
      exact hbd
  · intro j x hj
    have h1 := h.rb j x hj
    have h2 := (pz _ h1.2.lt).trans h1.1
    exact ⟨h2, h1.2.mod k (ne _ _ h2 (by omega) (by omega) h1.2.lt)⟩
  · intro j x hj
    rcases get_snoc hj with ⟨_, hj⟩ | ⟨hj, rfl⟩
    · have h1 := h.mb j x hj
      have h2 := (pz _ h1.2.lt).trans h1.1
      exact ⟨h2, h1.2.mod k (ne _ _ h2 (by omega) (by omega) h1.2.lt)⟩
    · have h2 := (pz _ hz.lt).trans hp
      exact ⟨h2, hz.mod k (ne _ _ h2 (by omega) (by omega) hz.lt)⟩
  · injection hi with hi
    subst hi
    exact part_at _ _ _
theorem NewAt.stepL (h : NewAt w wr d p vr vm vl RB MB a b c) (hown : w4.ownsRow 0 4 1 (.slice (some ⟨bk, 0, none⟩) (c + 1) cap) (c + 1) (List.replicate c (.bool false) ++ [.bool false])) (hg : wr.grownBy w4 vl.ownBlock) (hat : vl.ownBlock = some bk ∨ bk = wr.heap.size) (hbk : bk < w4.heap.size) :
    NewAt w (w4.setCell ⟨d, 2, none⟩ (.slice (some ⟨bk, 0, none⟩) (c + 1) cap)) d (part p bk 4) vr vm (.slice (some ⟨bk, 0, none⟩) (c + 1) cap) RB MB a b (c + 1) := by
  obtain ⟨k, hpb, ne, hd4, hbd, hx⟩ := h.grow (w4 := w4) (bk := bk) h.pl (by omega) hg hat 2 (.slice (some ⟨bk, 0, none⟩) (c + 1) cap)
  have hwb : w.heap.size ≤ bk := hat.elim (fun e => (h.lt bk (by rw [h.pl bk e]; omega)).1) fun e => by have := h.ext.size; omega
  have pz := fun (i : Nat) (hi : i < wr.heap.size) => hpb i hi
  refine ⟨row_set 2 (hd4.trans h.hd) _ rfl, own_mod h.rr k (fun i hi => ne i 2 ((pz i (h.rr.lt i hi).2).trans (h.pr i hi)) (by omega) (by omega) (h.rr.lt i hi).2), own_mod h.rm k (fun i hi => ne i 3 ((pz i (h.rm.lt i hi).2).trans (h.pm i hi)) (by omega) (by omega) (h.rm.lt i hi).2), ?_, ?_, ?_, (pz d h.dlt).trans h.pd, fun i hi => (pz i (h.rr.lt i hi).2).trans (h.pr i hi), fun i hi => (pz i (h.rm.lt i hi).2).trans (h.pm i hi), fun i hi => ?_, h.partlt hg.size hbk hwb, hx⟩
  · rw [List.replicate_succ']
    exact own_mod hown (mod_one w4 d 2 _) fun i hi => by
      injection hi with hi
      subst hi
      exact hbd
  · intro j x hj
    have h1 := h.rb j x hj
    have h2 := (pz _ h1.2.lt).trans h1.1
    exact ⟨h2, h1.2.mod k (ne _ _ h2 (by omega) (by omega) h1.2.lt)⟩
  · intro j x hj
    have h1 := h.mb j x hj
    have h2 := (pz _ h1.2.lt).trans h1.1
    exact ⟨h2, h1.2.mod k (ne _ _ h2 (by omega) (by omega) h1.2.lt)⟩
  · injection hi with hi
    subst hi
    exact part_at _ _ _
/-- A new block's part may be anything. -/
theorem NewAt.recast (h : NewAt w wr d p vr vm vl RB MB a b c) {p' : Nat → Nat} (hp : ∀ k, k < wr.heap.size → p' k = p k) (hl : ∀ k, p' k ≠ 0 → p k ≠ 0 ∨ (wr.heap.size ≤ k ∧ k < w2.heap.size)) (hx : Ext wr w2) : NewAt w w2 d p' vr vm vl RB MB a b c := by
  have e := h.ext_ hx
  refine ⟨e.hd, e.rr, e.rm, e.rl, fun j x hj => ⟨(hp _ (h.rb j x hj).2.lt).trans (h.rb j x hj).1, (e.rb j x hj).2⟩, fun j x hj => ⟨(hp _ (h.mb j x hj).2.lt).trans (h.mb j x hj).1, (e.mb j x hj).2⟩, (hp _ h.dlt).trans h.pd, fun i hi => (hp _ (h.rr.lt i hi).2).trans (h.pr i hi), fun i hi => (hp _ (h.rm.lt i hi).2).trans (h.pm i hi), fun i hi => (hp _ (h.rl.lt i hi).2).trans (h.pl i hi), fun i hi => ?_, e.ext⟩
  rcases hl i hi with h1 | h1
  · exact e.lt i h1
  · have := h.ext.size
    omega
/-- The disk is made. -/
theorem NewAt.done (h : NewAt w wr d p vr vm vl RB MB a a a) (h1 : 1 ≤ a) (h2 : a ≤ 1024) : RD wr d p (DM.new a) := by
  have form := fun {e : TypeId} {v : Value} {xs : List Value} (ho : wr.ownsRow 0 e 1 v a xs) => show ∃ g c, v = .slice (some ⟨g, 0, none⟩) a c by
    rcases ho.2 with ⟨_, h0⟩ | ⟨g, cap, cur, hv, _⟩
    · omega
    · exact ⟨g, cap, hv⟩
  obtain ⟨gr, cr, e1⟩ := form h.rr
  obtain ⟨gm, cm, e2⟩ := form h.rm
  obtain ⟨gl, cl, e3⟩ := form h.rl
  subst e1; subst e2; subst e3
  have hs : (DM.new a).size = a := by simp [DM.new, DM.size]
  have zr : ∀ j, j < a → (DM.new a).rest.getD j [] = z64 ∧ (DM.new a).meant.getD j [] = z64 := fun j hj => by
    show (List.replicate a z64).getD j [] = z64 ∧ (List.replicate a z64).getD j [] = z64
    rw [List.getD_eq_getElem?_getD, List.getElem?_replicate, if_pos hj]
    exact ⟨rfl, rfl⟩
  have hRB : RB.length = a := by have := h.rr.1; rw [List.length_map] at this; omega
  have hMB : MB.length = a := by have := h.rm.1; rw [List.length_map] at this; omega
  refine ⟨⟨{ gr := gr, gm := gm, gl := gl, cr := cr, cm := cm, cl := cl, pv := .slice none 0 0, RB := RB, MB := MB, WB := [] }, DM.new_ok a, ⟨by rw [hs]; exact h.hd, by rw [hs]; exact ⟨h1, h2⟩⟩, by rw [hs]; exact h.rr, by rw [hs]; exact h.rm, ?_, fun j x hx => ?_, fun j x hx => ?_, rfl, fun j x hx => (by simp at hx), World.ownsRow_nil _ _ _ _, h.pd, h.pr gr rfl, h.pm gm rfl, h.pl gl rfl, fun k hk => (by cases hk), by show (-1 : Int) ≤ _; omega⟩, fun k hk => (h.lt k hk).2⟩
  · rw [hs]
    show wr.ownsRow 0 _ 1 _ a ((List.replicate a false).map .bool)
    rw [List.map_replicate]
    exact h.rl
  · have hj : j < a := by rw [← hRB]; exact (List.getElem?_eq_some_iff.1 hx).1
    rw [(zr j hj).1]
    exact h.rb j x hx
  · have hj : j < a := by rw [← hMB]; exact (List.getElem?_eq_some_iff.1 hx).1
    rw [(zr j hj).2]
    exact h.mb j x hx
end
end Go.Proofs.YtlikhmhomkiadaaGreatDoor

namespace Go.Proofs.YtlikhmhomkiadaaGreatDoor
set_option maxRecDepth 100000
open Go Go.RowKit

theorem rnew_no (s : Int) (w : World) (h : s < 1 ∨ 1024 < s) : Calls Tryz.prog 8 #[.int .i64 s] w fun e w' => ∃ a, e = .returned (.tuple #[.pointer (some a), .bool false]) ∧ Ext w w' := by
  have HX := Lib.hid ((Ext.refl w).alloc (.cells #[.slice none 0 0, .slice none 0 0, .slice none 0 0, .slice none 0 0, .bool false, .bool false, .int .i64 (-1)] 95))
  by_cases h1 : s < 1
  · clear h
    go_enter Tryz.func8, Tryz.ntmps8
    go_wp2_with fail
    refine bodyPost_ret (v := .tuple #[.pointer (some ⟨w.heap.size, 0, none⟩), .bool false]) (by simp [results, Tryz.results8, go_sem]) rfl ?_
    first | exact ⟨_, rfl, HX.out⟩ | exact ⟨rfl, HX.out⟩ | exact ⟨by simp, HX.out⟩
  · have h2 : 1024 < s := h.resolve_left h1
    clear h
    go_enter Tryz.func8, Tryz.ntmps8
    go_wp2_with fail
    refine bodyPost_ret (v := .tuple #[.pointer (some ⟨w.heap.size, 0, none⟩), .bool false]) (by simp [results, Tryz.results8, go_sem]) rfl ?_
    first | exact ⟨_, rfl, HX.out⟩ | exact ⟨rfl, HX.out⟩ | exact ⟨by simp, HX.out⟩

/-- The worlds ahead of an append of 64 new noughts. -/
theorem two_cell (V : World) (o : Obj) (v : Value) (t : TypeId) : ∀ j u, ([v] : List Value)[j]? = some u → ((V.alloc o).alloc (.cells #[v] t)).drew.cell? ((⟨V.heap.size + 1, 0, none⟩ : Addr).add j) = some u := by
  intro j u hu
  show ((V.alloc o).alloc (.cells #[v] t)).cell? _ = _
  rw [Addr.add_lit, Nat.zero_add, show V.heap.size + 1 = (V.alloc o).heap.size by simp, World.cell?_alloc_new]
  exact (List.getElem?_toArray ..).trans hu
theorem one_cell (V : World) (v : Value) (t : TypeId) : ∀ j u, ([v] : List Value)[j]? = some u → (V.alloc (.cells #[v] t)).cell? ((⟨V.heap.size, 0, none⟩ : Addr).add j) = some u := by
  intro j u hu
  rw [Addr.add_lit, Nat.zero_add, World.cell?_alloc_new]
  exact (List.getElem?_toArray ..).trans hu
theorem oneSl (a c : Nat) : ∀ u ∈ ([.slice (some ⟨a, 0, none⟩) 64 c] : List Value), u.oneCell' = true := by
  intro u hu
  rw [List.mem_singleton.1 hu]
  rfl
theorem oneBo (b : Bool) : ∀ u ∈ ([.bool b] : List Value), u.oneCell' = true := by
  intro u hu
  rw [List.mem_singleton.1 hu]
  rfl
section
variable {w wr w4 : World} {d : Nat} {p : Nat → Nat} {vr vm vl : Value} {RB MB : List (Nat × Nat)} {a b c : Nat}
/-- The noughts are there, with their part. -/
theorem NewAt.zero (h : NewAt w wr d p vr vm vl RB MB a b c) (r : Nat) (v : Value) (t : TypeId) : NewAt w ((wr.alloc z64row).alloc (.cells #[v] t)).drew d (part p wr.heap.size r) vr vm vl RB MB a b c ∧ Byt ((wr.alloc z64row).alloc (.cells #[v] t)).drew (wr.heap.size, 64) z64 := by
  have e : Ext wr ((wr.alloc z64row).alloc (.cells #[v] t)).drew := (((Ext.refl wr).alloc _).alloc _).drew
  refine ⟨h.recast (part_old (Nat.le_refl _)) (fun k hk => ?_) e, (zbyt wr).mod (F := fun _ => False) (Mod.of_ext (((Ext.refl _).alloc _).drew)) fun h => h⟩
  rcases part_nz hk with rfl | hk
  · exact .inr ⟨Nat.le_refl _, by show wr.heap.size < ((wr.alloc z64row).alloc (.cells #[v] t)).heap.size; simp; omega⟩
  · exact .inl hk
theorem NewAt.cellsAt (h : NewAt w wr d p vr vm vl RB MB a b c) {w2 : World} (k : Ext wr w2) : w2.cell? ⟨d, 0, none⟩ = some vr ∧ w2.cell? ⟨d, 1, none⟩ = some vm ∧ w2.cell? ⟨d, 2, none⟩ = some vl := by
  have h2 := (h.ext_ k).hd
  exact ⟨cell_of_row w2 d 0 _ _ _ h2, cell_of_row w2 d 1 _ _ _ h2, cell_of_row w2 d 2 _ _ _ h2⟩
theorem NewAt.afterG (h : NewAt w wr d p vr vm vl RB MB a b c) {v0 : Value} {r : Nat} (h0 : ∀ k, v0.ownBlock = some k → p k = r) (hr : 2 ≤ r) (hg : wr.grownBy w4 v0.ownBlock) : (w4.cell? ⟨d, 0, none⟩ = some vr ∧ w4.cell? ⟨d, 1, none⟩ = some vm ∧ w4.cell? ⟨d, 2, none⟩ = some vl) ∧ (∀ i, w4.frozen? ⟨d, i, none⟩ = false) ∧ d < w4.heap.size := by
  have hdp : ¬ v0.ownBlock = some d := fun e => by have := h0 d e; have := h.pd; omega
  have h2 := (hg.block d h.dlt (fun e => hdp e.symm)).trans h.hd
  exact ⟨⟨cell_of_row w4 d 0 _ _ _ h2, cell_of_row w4 d 1 _ _ _ h2, cell_of_row w4 d 2 _ _ _ h2⟩, fun i => frozen_of_row w4 d i _ _ h2, Nat.lt_of_lt_of_le h.dlt hg.size⟩
end
set_option maxRecDepth 100000 in
set_option maxHeartbeats 25600000 in
theorem rnew_yes (n : Nat) (w : World) (h1 : 1 ≤ n) (h2 : n ≤ 1024) : Calls Tryz.prog 8 #[.int .i64 (n : Int)] w fun e w' => ∃ d p, e = .returned (.tuple #[.pointer (some ⟨d, 0, none⟩), .bool true]) ∧ RD w' d p (DM.new n) ∧ (∀ k, p k ≠ 0 → w.heap.size ≤ k) ∧ Ext w w' := by
  have hst : NewAt w (w.alloc (.cells #[.slice none 0 0, .slice none 0 0, .slice none 0 0, .slice none 0 0, .bool false, .bool false, .int .i64 (-1)] 95)) w.heap.size (part (fun _ => 0) w.heap.size 1) (.slice none 0 0) (.slice none 0 0) (.slice none 0 0) [] [] 0 0 0 :=
    ⟨heap_alloc_new w _, World.ownsRow_nil _ _ _ _, World.ownsRow_nil _ _ _ _, World.ownsRow_nil _ _ _ _, fun j x hx => (by simp at hx), fun j x hx => (by simp at hx), part_at _ _ _, fun k hk => (by cases hk), fun k hk => (by cases hk), fun k hk => (by cases hk), fun k hk => by
      rcases part_nz hk with rfl | hk
      · exact ⟨Nat.le_refl _, by simp⟩
      · exact absurd rfl hk, (Ext.refl w).alloc _⟩
  have HST := Lib.hid hst
  have hmk := mk64
  clear hst
  go_enter Tryz.func8, Tryz.ntmps8
  go_wp2_with fail
  generalize hd0 : w.heap.size = d at *
  have HD0 := Lib.hid hd0
  clear hd0
  go_loopw [5] (fun i wr => ∃ (k : Nat) (p : Nat → Nat) (vr vm vl : Value) (RB MB : List (Nat × Nat)), k ≤ n ∧ i = .int .i64 k ∧ Hid (NewAt w wr d p vr vm vl RB MB k k k)) (fun i _ => n - (intOf i).toNat)
  case atStart => exact ⟨0, _, _, _, _, _, _, Nat.zero_le _, rfl, HST⟩
  case round =>
    obtain ⟨k, p, vr, vm, vl, RB, MB, hk, rfl, HN⟩ := hrel
    by_cases hlt : k < n
    · have hz := (HN.out).zero (7 + k) (.slice (some ⟨wr.heap.size, 0, none⟩) 64 64) 34
      have HZ := Lib.hid hz
      have c0 := (HN.out.cellsAt (Ext.refl wr).drew).1
      have c1 := (HN.out.cellsAt (((Ext.refl wr).alloc z64row).drew)).1
      have c2 := (HN.out.cellsAt ((((Ext.refl wr).alloc z64row).alloc (.cells #[.slice (some ⟨wr.heap.size, 0, none⟩) 64 64] 34)).drew)).1
      have HNEWS := Lib.hid (two_cell wr z64row (.slice (some ⟨wr.heap.size, 0, none⟩) 64 64) 34)
      have HONE := Lib.hid (oneSl wr.heap.size 64)
      clear hz
      go_wp2_with fail
      go_region_law (first
        | (refine step_append_lies _ rfl _ _ 92 rfl 0 34 (Classical.choose (info_parts sl_info)) (.slice none 0 0) 1 24 Tryz.underlying92 (Classical.choose_spec (info_parts sl_info)).1 (Classical.choose_spec (info_parts sl_info)).2.1 (Classical.choose_spec (info_parts sl_info)).2.2.1 (Classical.choose_spec (info_parts sl_info)).2.2.2 rfl (by decide) vr k (RB.map slV) rfl HZ.out.1.rr ⟨wr.heap.size + 1, 0, none⟩ 1 1 [.slice (some ⟨wr.heap.size, 0, none⟩) 64 64] rfl rfl HNEWS.out HONE.out (by omega) (by unfold maxLen; omega) (by omega) (Nat.zero_le _) (wr.heap.size + 1 + 1) (by simp) ?_; intro bk cap w4 hown hgrow hat hlt4; have HG4 := Lib.hid hgrow; have HO4 := Lib.hid hown; have HT4 := Lib.hid hat; have HL4 := Lib.hid hlt4; obtain ⟨⟨g0, _, _⟩, gf, gl⟩ := HZ.out.1.afterG HZ.out.1.pr (by omega) hgrow; have gf0 := gf 0; clear hown hgrow hat))
      all_goals
        have hs2 : ((wr.alloc z64row).alloc (.cells #[.slice (some ⟨wr.heap.size, 0, none⟩) 64 64] 34)).drew.heap.size = wr.heap.size + 1 + 1 := by show ((wr.alloc z64row).alloc _).heap.size = _; simp
        have hN1 := HZ.out.1.stepR HZ.out.2 (part_at _ _ _) HO4.out HG4.out (HT4.out.imp id fun e => by rw [hs2]; exact e) HL4.out
        obtain ⟨X1, hX1⟩ : ∃ X, w4.setCell ⟨d, 0, none⟩ (.slice (some ⟨bk, 0, none⟩) (k + 1) cap) = X := ⟨_, rfl⟩
        rw [hX1] at hN1
        rw [hX1]
        obtain ⟨p1, vr1, RB1, HN1⟩ : ∃ p1 v R, Hid (NewAt w X1 d p1 v vm vl R MB (k + 1) k k) := ⟨_, _, _, Lib.hid hN1⟩
        have hz := (HN1.out).zero 6 (.slice (some ⟨X1.heap.size, 0, none⟩) 64 64) 34
        have HZ1 := Lib.hid hz
        have c0 := (HN1.out.cellsAt (Ext.refl X1).drew).2.1
        have c1 := (HN1.out.cellsAt (((Ext.refl X1).alloc z64row).drew)).2.1
        have c2 := (HN1.out.cellsAt ((((Ext.refl X1).alloc z64row).alloc (.cells #[.slice (some ⟨X1.heap.size, 0, none⟩) 64 64] 34)).drew)).2.1
        have HNEWS := Lib.hid (two_cell X1 z64row (.slice (some ⟨X1.heap.size, 0, none⟩) 64 64) 34)
        have HONE := Lib.hid (oneSl X1.heap.size 64)
        clear hz hN1 hX1 hs2 g0 gf gf0 gl HG4 HO4 HT4 HL4 hlt4 HZ HN
        go_wp2_with fail
        go_region_law (first
          | (refine step_append_lies _ rfl _ _ 92 rfl 0 34 (Classical.choose (info_parts sl_info)) (.slice none 0 0) 1 24 Tryz.underlying92 (Classical.choose_spec (info_parts sl_info)).1 (Classical.choose_spec (info_parts sl_info)).2.1 (Classical.choose_spec (info_parts sl_info)).2.2.1 (Classical.choose_spec (info_parts sl_info)).2.2.2 rfl (by decide) vm k (MB.map slV) rfl HZ1.out.1.rm ⟨X1.heap.size + 1, 0, none⟩ 1 1 [.slice (some ⟨X1.heap.size, 0, none⟩) 64 64] rfl rfl HNEWS.out HONE.out (by omega) (by unfold maxLen; omega) (by omega) (Nat.zero_le _) (X1.heap.size + 1 + 1) (by simp) ?_; intro bk2 cap2 w5 hown hgrow hat hlt5; have HG5 := Lib.hid hgrow; have HO5 := Lib.hid hown; have HT5 := Lib.hid hat; have HL5 := Lib.hid hlt5; obtain ⟨⟨_, g1, _⟩, gf, gl⟩ := HZ1.out.1.afterG HZ1.out.1.pm (by omega) hgrow; have gf0 := gf 1; clear hown hgrow hat))
        all_goals
          have hs2 : ((X1.alloc z64row).alloc (.cells #[.slice (some ⟨X1.heap.size, 0, none⟩) 64 64] 34)).drew.heap.size = X1.heap.size + 1 + 1 := by show ((X1.alloc z64row).alloc _).heap.size = _; simp
          have hN2 := HZ1.out.1.stepM HZ1.out.2 (part_at _ _ _) HO5.out HG5.out (HT5.out.imp id fun e => by rw [hs2]; exact e) HL5.out
          obtain ⟨X2, hX2⟩ : ∃ X, w5.setCell ⟨d, 1, none⟩ (.slice (some ⟨bk2, 0, none⟩) (k + 1) cap2) = X := ⟨_, rfl⟩
          rw [hX2] at hN2
          rw [hX2]
          obtain ⟨p2, vm2, MB2, HN2⟩ : ∃ p2 v R, Hid (NewAt w X2 d p2 vr1 v vl RB1 R (k + 1) (k + 1) k) := ⟨_, _, _, Lib.hid hN2⟩
          have c0 := (HN2.out.cellsAt (Ext.refl X2)).2.2
          have c1 := (HN2.out.cellsAt ((Ext.refl X2).alloc (.cells #[.bool false] 4))).2.2
          have HN3 := Lib.hid (HN2.out.ext_ ((Ext.refl X2).alloc (.cells #[.bool false] 4)))
          obtain ⟨bi, bh, bz0, bz1, bz2⟩ := info_parts bo_info
          have HNEWS := Lib.hid (one_cell X2 (.bool false) 4)
          have HONE := Lib.hid (oneBo false)
          clear hN2 hX2 hs2 g1 gf gf0 gl HG5 HO5 HT5 HL5 hlt5 HZ1 HN1
          go_wp2_with (at_builtin; refine wpList_append_lies _ rfl _ _ 35 rfl 0 4 bi (.bool false) 1 1 Tryz.underlying35 bh bz0 bz1 bz2 rfl (by decide) vl k (List.replicate k (.bool false)) rfl HN3.out.rl ⟨X2.heap.size, 0, none⟩ 1 1 [.bool false] rfl rfl HNEWS.out HONE.out (by omega) (by unfold maxLen; omega) (by omega) (Nat.zero_le _) (X2.heap.size + 1) (by simp) ?_; intro bk3 cap3 w6 hown hgrow hat hlt6; have HG6 := Lib.hid hgrow; have HO6 := Lib.hid hown; have HT6 := Lib.hid hat; have HL6 := Lib.hid hlt6; obtain ⟨⟨_, _, g2⟩, gf, gl⟩ := HN3.out.afterG HN3.out.pl (by omega) hgrow; have gf0 := gf 2; clear hown hgrow hat)
          all_goals
            have hs2 : (X2.alloc (.cells #[.bool false] 4)).heap.size = X2.heap.size + 1 := by simp
            have hN4 := HN3.out.stepL HO6.out HG6.out (HT6.out.imp id fun e => by rw [hs2]; exact e) HL6.out
            have HN4 := Lib.hid hN4
            clear hN4 hs2 g2 gf gf0 gl HG6 HO6 HT6 HL6 hlt6 HN3 HN2 c0 c1 c2
            go_wp2_with fail
            go_roundw
            case rel => exact ⟨k + 1, _, _, _, _, _, _, by omega, by go_num, HN4⟩
            case measure => simp [intOf]; omega
    · obtain rfl : k = n := by omega
      have HDN := Lib.hid (HN.out.done h1 h2)
      go_wp2_with fail
      refine bodyPost_ret (v := .tuple #[.pointer (some ⟨d, 0, none⟩), .bool true]) (by simp [results, Tryz.results8, go_sem]) rfl ?_
      exact ⟨_, _, rfl, HDN.out, fun i hi => by have := (HN.out.lt i hi).1; have := HD0.out; omega, HN.out.ext⟩
end Go.Proofs.YtlikhmhomkiadaaGreatDoor

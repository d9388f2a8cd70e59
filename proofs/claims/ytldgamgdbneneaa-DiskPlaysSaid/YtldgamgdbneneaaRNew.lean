/-
  The document's disk: New.
-/
import Derived.Test.YtldgamgdbneneaaRWrite
namespace Go.Proofs.Ytldgamgdbneneaa
open Go Go.RowKit

theorem sl_info : (Try.prog.info? 33).map (fun i => (i.zero, i.size, i.bytes)) = some (some (.slice none 0 0), 1, 24) := by kernel_rfl
theorem bo_info : (Try.prog.info? 4).map (fun i => (i.zero, i.size, i.bytes)) = some (some (.bool false), 1, 1) := by kernel_rfl
def z64row : Obj := .cells (madeCells #[.int .u8 0] 64) 5
theorem mk64 (w : World) : (Instr.makeSlice 33 (.int .i64 64) (.int .i64 64)).run Try.prog w = .ok (.slice (some ⟨w.heap.size, 0, none⟩) 64 64) (w.alloc z64row) := by
  obtain ⟨i0, hi, hz0, hz1, hz2⟩ := info_parts byte_info
  have := run_make w 33 5 i0 (.int .u8 0) Try.underlying33 hi hz0 .i64 .i64 64 64 (by omega) (Int.le_refl _) (by rw [hz2]; omega) (by omega)
  rw [hz1] at this
  exact this
theorem zbyt (w : World) : Byt (w.alloc z64row) (w.heap.size, 64) z64 := by
  have h := World.ownsRow_lit (size := 1) (e := 5) w (madeCells #[.int .u8 0] 64) 64 (base := 0) (Nat.zero_le _) (by unfold maxLen; omega) (by rw [size_madeCells])
  rw [toList_madeCells_one] at h
  have e : vb z64 = List.replicate 64 (Value.int .u8 0) := by unfold z64 vb; rw [List.map_replicate]; rfl
  unfold Byt
  rw [e]
  exact h

/-- The document's disk while it is being made: so many sectors at rest, meant, lost. -/
structure NewAt (w wr : World) (d : Nat) (p : Nat → Nat) (vr vm vl : Value) (RB MB : List (Nat × Nat)) (a b c : Nat) : Prop where
  hd : wr.heap[d]? = some (.cells #[vr, vm, vl, .slice none 0 0, .bool false, .bool false, .int .i64 (-1)] 41 (0, 0))
  rr : wr.ownsRow 0 33 1 vr a (RB.map slV)
  rm : wr.ownsRow 0 33 1 vm b (MB.map slV)
  rl : wr.ownsRow 0 4 1 vl c (List.replicate c (.bool false))
  rb : ∀ (j : Nat) (x : Nat × Nat), RB[j]? = some x → p x.1 = 7 + j ∧ Byt wr x z64
  mb : ∀ (j : Nat) (x : Nat × Nat), MB[j]? = some x → p x.1 = 6 ∧ Byt wr x z64
  pd : p d = 1
  pr : ∀ k, vr.ownBlock = some k → p k = 2
  pm : ∀ k, vm.ownBlock = some k → p k = 3
  pl : ∀ k, vl.ownBlock = some k → p k = 4
  lt : ∀ k, p k ≠ 0 → w.heap.size ≤ k ∧ k < wr.heap.size
  ext : Ext w wr
section
variable {w wr w2 w4 : World} {d bk cap : Nat} {p : Nat → Nat} {vr vm vl : Value} {RB MB : List (Nat × Nat)} {a b c : Nat}
theorem NewAt.ext_ (h : NewAt w wr d p vr vm vl RB MB a b c) (k : Ext wr w2) : NewAt w w2 d p vr vm vl RB MB a b c :=
  ⟨(k.block d (Array.getElem?_eq_some_iff.1 h.hd).1).trans h.hd, own_mod (F := fun _ => False) h.rr (Mod.of_ext k) (fun _ _ h => h), own_mod (F := fun _ => False) h.rm (Mod.of_ext k) (fun _ _ h => h), own_mod (F := fun _ => False) h.rl (Mod.of_ext k) (fun _ _ h => h), fun j x hx => ⟨(h.rb j x hx).1, (h.rb j x hx).2.mod (F := fun _ => False) (Mod.of_ext k) fun h => h⟩, fun j x hx => ⟨(h.mb j x hx).1, (h.mb j x hx).2.mod (F := fun _ => False) (Mod.of_ext k) fun h => h⟩,
    h.pd, h.pr, h.pm, h.pl, fun i hi => ⟨(h.lt i hi).1, Nat.lt_of_lt_of_le (h.lt i hi).2 k.size⟩, h.ext.trans k⟩
theorem NewAt.dlt (h : NewAt w wr d p vr vm vl RB MB a b c) : d < wr.heap.size := (Array.getElem?_eq_some_iff.1 h.hd).1
/-- A row of the disk's that grows by one: what stays. -/
theorem NewAt.grow (h : NewAt w wr d p vr vm vl RB MB a b c) {v0 : Value} {r : Nat} (h0 : ∀ k, v0.ownBlock = some k → p k = r) (hr : 2 ≤ r) (hg : wr.grownBy w4 v0.ownBlock) (hat : v0.ownBlock = some bk ∨ bk = wr.heap.size) (i : Nat) (v : Value) :
    Mod (fun k => k = d ∨ v0.ownBlock = some k) wr (w4.setCell ⟨d, i, none⟩ v) ∧ (∀ k, k < wr.heap.size → part p bk r k = p k) ∧ (∀ k r2, part p bk r k = r2 → r2 ≠ 1 → r2 ≠ r → k < wr.heap.size → ¬ (k = d ∨ v0.ownBlock = some k)) ∧ w4.heap[d]? = wr.heap[d]? ∧ bk ≠ d ∧ Ext w (w4.setCell ⟨d, i, none⟩ v) := by
  have hdp : ¬ v0.ownBlock = some d := fun e => by have := h0 d e; have := h.pd; omega
  have hpb : ∀ k, k < wr.heap.size → part p bk r k = p k := fun k hk => by
    unfold part
    split
    · rename_i e
      subst e
      rcases hat with e | e
      · exact (h0 _ e).symm
      · omega
    · rfl
  have k : Mod (fun k => k = d ∨ v0.ownBlock = some k) wr (w4.setCell ⟨d, i, none⟩ v) := ((Mod.refl _ wr).grown hg fun j hj => .inl (.inr hj)).setCell (p := ⟨d, i, none⟩) (.inl (.inl rfl)) _
  refine ⟨k, hpb, fun j r2 hj h1 h2 hjl e => ?_, hg.block d h.dlt (fun e => hdp e.symm), fun e => ?_, ?_⟩
  · rw [hpb j hjl] at hj
    rcases e with e | e
    · rw [e, h.pd] at hj; omega
    · rw [h0 j e] at hj; omega
  · rcases hat with e2 | e2
    · rw [e] at e2; exact hdp e2
    · have := h.dlt; omega
  · have := h.ext
    refine Mod.to_ext (F := fun k => k = d ∨ v0.ownBlock = some k) ((Mod.of_ext this).trans k fun j hj => .inl hj) fun j hj => ?_
    rcases hj with e | e
    · rw [e]; exact (h.lt d (by rw [h.pd]; omega)).1
    · exact (h.lt j (by rw [h0 j e]; omega)).1
theorem NewAt.partlt (h : NewAt w wr d p vr vm vl RB MB a b c) {r i : Nat} {v : Value} (hw4 : wr.heap.size ≤ w4.heap.size) (hbk : bk < w4.heap.size) (hwb : w.heap.size ≤ bk) : ∀ k, part p bk r k ≠ 0 → w.heap.size ≤ k ∧ k < (w4.setCell ⟨d, i, none⟩ v).heap.size := fun k hk => by
  have hs : (w4.setCell ⟨d, i, none⟩ v).heap.size = w4.heap.size := by simp [World.setCell]
  rw [hs]
  rcases part_nz hk with rfl | hk
  · exact ⟨hwb, hbk⟩
  · have := h.lt k hk
    omega
theorem NewAt.stepR {z : Nat} (h : NewAt w wr d p vr vm vl RB MB a b c) (hz : Byt wr (z, 64) z64) (hp : p z = 7 + a) (hown : w4.ownsRow 0 33 1 (.slice (some ⟨bk, 0, none⟩) (a + 1) cap) (a + 1) (RB.map slV ++ [slV (z, 64)])) (hg : wr.grownBy w4 vr.ownBlock) (hat : vr.ownBlock = some bk ∨ bk = wr.heap.size) (hbk : bk < w4.heap.size) :
    NewAt w (w4.setCell ⟨d, 0, none⟩ (.slice (some ⟨bk, 0, none⟩) (a + 1) cap)) d (part p bk 2) (.slice (some ⟨bk, 0, none⟩) (a + 1) cap) vm vl (RB ++ [(z, 64)]) MB (a + 1) b c := by
  obtain ⟨k, hpb, ne, hd4, hbd, hx⟩ := h.grow (w4 := w4) (bk := bk) h.pr (by omega) hg hat 0 (.slice (some ⟨bk, 0, none⟩) (a + 1) cap)
  have hwb : w.heap.size ≤ bk := hat.elim (fun e => (h.lt bk (by rw [h.pr bk e]; omega)).1) fun e => by have := h.ext.size; omega
  have hRB : RB.length = a := by have := h.rr.1; rw [List.length_map] at this; omega
  have pz := fun (i : Nat) (hi : i < wr.heap.size) => hpb i hi
  refine ⟨row_set 0 (hd4.trans h.hd) _ rfl, ?_, own_mod h.rm k (fun i hi => ne i 3 ((pz i (h.rm.lt i hi).2).trans (h.pm i hi)) (by omega) (by omega) (h.rm.lt i hi).2), own_mod h.rl k (fun i hi => ne i 4 ((pz i (h.rl.lt i hi).2).trans (h.pl i hi)) (by omega) (by omega) (h.rl.lt i hi).2), ?_, ?_, (pz d h.dlt).trans h.pd, fun i hi => ?_, fun i hi => (pz i (h.rm.lt i hi).2).trans (h.pm i hi), fun i hi => (pz i (h.rl.lt i hi).2).trans (h.pl i hi), h.partlt hg.size hbk hwb, hx⟩
  · rw [List.map_append]
    exact own_mod hown (mod_one w4 d 0 _) fun i hi => by
      injection hi with hi
      subst hi
      exact hbd
  · intro j x hj
    rcases get_snoc hj with ⟨_, hj⟩ | ⟨hj2, rfl⟩
    · have h1 := h.rb j x hj
      have h2 := (pz _ h1.2.lt).trans h1.1
      exact ⟨h2, h1.2.mod k (ne _ _ h2 (by omega) (by omega) h1.2.lt)⟩
    · have h2 := (pz _ hz.lt).trans hp
      rw [hj2, hRB]
      exact ⟨h2, hz.mod k (ne _ _ h2 (by omega) (by omega) hz.lt)⟩
  · intro j x hj
    have h1 := h.mb j x hj
    have h2 := (pz _ h1.2.lt).trans h1.1
    exact ⟨h2, h1.2.mod k (ne _ _ h2 (by omega) (by omega) h1.2.lt)⟩
  · injection hi with hi
    subst hi
    exact part_at _ _ _
theorem NewAt.stepM {z : Nat} (h : NewAt w wr d p vr vm vl RB MB a b c) (hz : Byt wr (z, 64) z64) (hp : p z = 6) (hown : w4.ownsRow 0 33 1 (.slice (some ⟨bk, 0, none⟩) (b + 1) cap) (b + 1) (MB.map slV ++ [slV (z, 64)])) (hg : wr.grownBy w4 vm.ownBlock) (hat : vm.ownBlock = some bk ∨ bk = wr.heap.size) (hbk : bk < w4.heap.size) :
    NewAt w (w4.setCell ⟨d, 1, none⟩ (.slice (some ⟨bk, 0, none⟩) (b + 1) cap)) d (part p bk 3) vr (.slice (some ⟨bk, 0, none⟩) (b + 1) cap) vl RB (MB ++ [(z, 64)]) a (b + 1) c := by
  obtain ⟨k, hpb, ne, hd4, hbd, hx⟩ := h.grow (w4 := w4) (bk := bk) h.pm (by omega) hg hat 1 (.slice (some ⟨bk, 0, none⟩) (b + 1) cap)
  have hwb : w.heap.size ≤ bk := hat.elim (fun e => (h.lt bk (by rw [h.pm bk e]; omega)).1) fun e => by have := h.ext.size; omega
  have pz := fun (i : Nat) (hi : i < wr.heap.size) => hpb i hi
  refine ⟨row_set 1 (hd4.trans h.hd) _ rfl, own_mod h.rr k (fun i hi => ne i 2 ((pz i (h.rr.lt i hi).2).trans (h.pr i hi)) (by omega) (by omega) (h.rr.lt i hi).2), ?_, own_mod h.rl k (fun i hi => ne i 4 ((pz i (h.rl.lt i hi).2).trans (h.pl i hi)) (by omega) (by omega) (h.rl.lt i hi).2), ?_, ?_, (pz d h.dlt).trans h.pd, fun i hi => (pz i (h.rr.lt i hi).2).trans (h.pr i hi), fun i hi => ?_, fun i hi => (pz i (h.rl.lt i hi).2).trans (h.pl i hi), h.partlt hg.size hbk hwb, hx⟩
  · rw [List.map_append]
    exact own_mod hown (mod_one w4 d 1 _) fun i hi => by
      injection hi with hi
      subst hi
      exact hbd
  · intro j x hj
    have h1 := h.rb j x hj
    have h2 := (pz _ h1.2.lt).trans h1.1
    exact ⟨h2, h1.2.mod k (ne _ _ h2 (by omega) (by omega) h1.2.lt)⟩
  · intro j x hj
    rcases get_snoc hj with ⟨_, hj⟩ | ⟨hj, rfl⟩
    · have h1 := h.mb j x hj
      have h2 := (pz _ h1.2.lt).trans h1.1
      exact ⟨h2, h1.2.mod k (ne _ _ h2 (by omega) (by omega) h1.2.lt)⟩
    · have h2 := (pz _ hz.lt).trans hp
      exact ⟨h2, hz.mod k (ne _ _ h2 (by omega) (by omega) hz.lt)⟩
  · injection hi with hi
    subst hi
    exact part_at _ _ _
theorem NewAt.stepL (h : NewAt w wr d p vr vm vl RB MB a b c) (hown : w4.ownsRow 0 4 1 (.slice (some ⟨bk, 0, none⟩) (c + 1) cap) (c + 1) (List.replicate c (.bool false) ++ [.bool false])) (hg : wr.grownBy w4 vl.ownBlock) (hat : vl.ownBlock = some bk ∨ bk = wr.heap.size) (hbk : bk < w4.heap.size) :
    NewAt w (w4.setCell ⟨d, 2, none⟩ (.slice (some ⟨bk, 0, none⟩) (c + 1) cap)) d (part p bk 4) vr vm (.slice (some ⟨bk, 0, none⟩) (c + 1) cap) RB MB a b (c + 1) := by
  obtain ⟨k, hpb, ne, hd4, hbd, hx⟩ := h.grow (w4 := w4) (bk := bk) h.pl (by omega) hg hat 2 (.slice (some ⟨bk, 0, none⟩) (c + 1) cap)
  have hwb : w.heap.size ≤ bk := hat.elim (fun e => (h.lt bk (by rw [h.pl bk e]; omega)).1) fun e => by have := h.ext.size; omega
  have pz := fun (i : Nat) (hi : i < wr.heap.size) => hpb i hi
  refine ⟨row_set 2 (hd4.trans h.hd) _ rfl, own_mod h.rr k (fun i hi => ne i 2 ((pz i (h.rr.lt i hi).2).trans (h.pr i hi)) (by omega) (by omega) (h.rr.lt i hi).2), own_mod h.rm k (fun i hi => ne i 3 ((pz i (h.rm.lt i hi).2).trans (h.pm i hi)) (by omega) (by omega) (h.rm.lt i hi).2), ?_, ?_, ?_, (pz d h.dlt).trans h.pd, fun i hi => (pz i (h.rr.lt i hi).2).trans (h.pr i hi), fun i hi => (pz i (h.rm.lt i hi).2).trans (h.pm i hi), fun i hi => ?_, h.partlt hg.size hbk hwb, hx⟩
  · rw [List.replicate_succ']
    exact own_mod hown (mod_one w4 d 2 _) fun i hi => by
      injection hi with hi
      subst hi
      exact hbd
  · intro j x hj
    have h1 := h.rb j x hj
    have h2 := (pz _ h1.2.lt).trans h1.1
    exact ⟨h2, h1.2.mod k (ne _ _ h2 (by omega) (by omega) h1.2.lt)⟩
  · intro j x hj
    have h1 := h.mb j x hj
    have h2 := (pz _ h1.2.lt).trans h1.1
    exact ⟨h2, h1.2.mod k (ne _ _ h2 (by omega) (by omega) h1.2.lt)⟩
  · injection hi with hi
    subst hi
    exact part_at _ _ _
/-- A new block's part may be anything. -/
theorem NewAt.recast (h : NewAt w wr d p vr vm vl RB MB a b c) {p' : Nat → Nat} (hp : ∀ k, k < wr.heap.size → p' k = p k) (hl : ∀ k, p' k ≠ 0 → p k ≠ 0 ∨ (wr.heap.size ≤ k ∧ k < w2.heap.size)) (hx : Ext wr w2) : NewAt w w2 d p' vr vm vl RB MB a b c := by
  have e := h.ext_ hx
  refine ⟨e.hd, e.rr, e.rm, e.rl, fun j x hj => ⟨(hp _ (h.rb j x hj).2.lt).trans (h.rb j x hj).1, (e.rb j x hj).2⟩, fun j x hj => ⟨(hp _ (h.mb j x hj).2.lt).trans (h.mb j x hj).1, (e.mb j x hj).2⟩, (hp _ h.dlt).trans h.pd, fun i hi => (hp _ (h.rr.lt i hi).2).trans (h.pr i hi), fun i hi => (hp _ (h.rm.lt i hi).2).trans (h.pm i hi), fun i hi => (hp _ (h.rl.lt i hi).2).trans (h.pl i hi), fun i hi => ?_, e.ext⟩
  rcases hl i hi with h1 | h1
  · exact e.lt i h1
  · have := h.ext.size
    omega
/-- The disk is made. -/
theorem NewAt.done (h : NewAt w wr d p vr vm vl RB MB a a a) (h1 : 1 ≤ a) (h2 : a ≤ 1024) : RD wr d p (DM.new a) := by
  have form := fun {e : TypeId} {v : Value} {xs : List Value} (ho : wr.ownsRow 0 e 1 v a xs) => show ∃ g c, v = .slice (some ⟨g, 0, none⟩) a c by
    rcases ho.2 with ⟨_, h0⟩ | ⟨g, cap, cur, hv, _⟩
    · omega
    · exact ⟨g, cap, hv⟩
  obtain ⟨gr, cr, e1⟩ := form h.rr
  obtain ⟨gm, cm, e2⟩ := form h.rm
  obtain ⟨gl, cl, e3⟩ := form h.rl
  subst e1; subst e2; subst e3
  have hs : (DM.new a).size = a := by simp [DM.new, DM.size]
  have zr : ∀ j, j < a → (DM.new a).rest.getD j [] = z64 ∧ (DM.new a).meant.getD j [] = z64 := fun j hj => by
    show (List.replicate a z64).getD j [] = z64 ∧ (List.replicate a z64).getD j [] = z64
    rw [List.getD_eq_getElem?_getD, List.getElem?_replicate, if_pos hj]
    exact ⟨rfl, rfl⟩
  have hRB : RB.length = a := by have := h.rr.1; rw [List.length_map] at this; omega
  have hMB : MB.length = a := by have := h.rm.1; rw [List.length_map] at this; omega
  refine ⟨⟨{ gr := gr, gm := gm, gl := gl, cr := cr, cm := cm, cl := cl, pv := .slice none 0 0, RB := RB, MB := MB, WB := [] }, DM.new_ok a, ⟨by rw [hs]; exact h.hd, by rw [hs]; exact ⟨h1, h2⟩⟩, by rw [hs]; exact h.rr, by rw [hs]; exact h.rm, ?_, fun j x hx => ?_, fun j x hx => ?_, rfl, fun j x hx => (by simp at hx), World.ownsRow_nil _ _ _ _, h.pd, h.pr gr rfl, h.pm gm rfl, h.pl gl rfl, fun k hk => (by cases hk), by show (-1 : Int) ≤ _; omega⟩, fun k hk => (h.lt k hk).2⟩
  · rw [hs]
    show wr.ownsRow 0 _ 1 _ a ((List.replicate a false).map .bool)
    rw [List.map_replicate]
    exact h.rl
  · have hj : j < a := by rw [← hRB]; exact (List.getElem?_eq_some_iff.1 hx).1
    rw [(zr j hj).1]
    exact h.rb j x hx
  · have hj : j < a := by rw [← hMB]; exact (List.getElem?_eq_some_iff.1 hx).1
    rw [(zr j hj).2]
    exact h.mb j x hx
end
end Go.Proofs.Ytldgamgdbneneaa

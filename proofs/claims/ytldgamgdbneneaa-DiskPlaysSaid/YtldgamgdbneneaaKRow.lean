/-
  Whole sectors and writes, by value, out of and into memory: facts of the program's types, and the contract of told.
-/
import Derived.Test.YtldgamgdbneneaaKDraw
import Derived.Deep.WholeRow
namespace Go.Proofs.Ytldgamgdbneneaa
set_option maxRecDepth 100000
open Go Go.RowKit

/-- The zero values' cells. -/
def zCon : Array Value := (vb z64).toArray
def zWri : Array Value := (wriC (0, z64)).toArray
def zMed : Array Value := (secC z64 z64 false).toArray
theorem con_info : (Try.prog.info? 70).map (fun i => (i.zero, i.size)) = some (some (.agg zCon), 64) := by kernel_rfl
theorem wri_info : (Try.prog.info? 72).map (fun i => (i.zero, i.size)) = some (some (.agg zWri), 65) := by kernel_rfl
theorem med_info : (Try.prog.info? 76).map (fun i => (i.zero, i.size)) = some (some (.agg zMed), 129) := by kernel_rfl
theorem zv_con (w : World) : (zeroValue 70).run Try.prog w = .ok (.agg zCon) w := (zero_of_info con_info).1 w
theorem zv_wri (w : World) : (zeroValue 72).run Try.prog w = .ok (.agg zWri) w := (zero_of_info wri_info).1 w
theorem zv_med (w : World) : (zeroValue 76).run Try.prog w = .ok (.agg zMed) w := (zero_of_info med_info).1 w
theorem sz_con : (Try.prog.info? 70).map (·.size) = some 64 := (zero_of_info con_info).2
theorem sz_wri : (Try.prog.info? 72).map (·.size) = some 65 := (zero_of_info wri_info).2
theorem sz_med : (Try.prog.info? 76).map (·.size) = some 129 := (zero_of_info med_info).2
theorem un_con : Try.prog.underlying 70 = some (.array 64 5) := Try.underlying70
theorem row_con : ∃ d, Try.prog.underlying 70 = some d ∧ d.isRow = true := ⟨_, Try.underlying70, rfl⟩
theorem row_wri : ∃ d, Try.prog.underlying 72 = some d ∧ d.isRow = true := ⟨_, Try.underlying72, rfl⟩
theorem row_med : ∃ d, Try.prog.underlying 76 = some d ∧ d.isRow = true := ⟨_, Try.underlying76, rfl⟩

/-- The loads of whole values. -/
theorem ld_con (w : World) (b o : Nat) (cs : List Value) (h : w.rangeAt b o cs) (hl : cs.length = 64) : (loadVar 70 ⟨b, o, none⟩).run Try.prog w = .ok (.agg cs.toArray) w := by
  obtain ⟨d, h1, h2⟩ := row_con
  exact run_loadVar_mid w b o _ cs d h h1 h2 (by rw [sz_con, hl])
theorem ld_wri (w : World) (b o : Nat) (cs : List Value) (h : w.rangeAt b o cs) (hl : cs.length = 65) : (loadVar 72 ⟨b, o, none⟩).run Try.prog w = .ok (.agg cs.toArray) w := by
  obtain ⟨d, h1, h2⟩ := row_wri
  exact run_loadVar_mid w b o _ cs d h h1 h2 (by rw [sz_wri, hl])
theorem ld_med (w : World) (b o : Nat) (cs : List Value) (h : w.rangeAt b o cs) (hl : cs.length = 129) : (loadVar 76 ⟨b, o, none⟩).run Try.prog w = .ok (.agg cs.toArray) w := by
  obtain ⟨d, h1, h2⟩ := row_med
  exact run_loadVar_mid w b o _ cs d h h1 h2 (by rw [sz_med, hl])
/-- A whole value into the block that was made last. -/
theorem st_new (w : World) (t : TypeId) (c c' : Array Value) (n : Nat) (hi : (Try.prog.info? t).map (·.size) = some n) (hc : c.size = n) (hc' : c'.size = n) (h1 : ∀ v ∈ c', v.oneCell' = true) :
    (storeVar t ⟨w.heap.size, 0, none⟩ (.agg c')).run Try.prog (w.alloc (.cells c t)) = .ok () (w.alloc (.cells c' t)) :=
  run_storeVar_new w t c c' (by rw [hi, hc']) (by rw [hc, hc']) (Array.all_eq_true_iff_forall_mem.2 h1)
theorem zMed_size : zMed.size = 129 := by simp [zMed, secC, vb_length, z64]
theorem zWri_size : zWri.size = 65 := by simp [zWri, wriC, vb_length, z64]
theorem zCon_size : zCon.size = 64 := by simp [zCon, vb_length, z64]
theorem st_med (w : World) (cs : List Value) (hl : cs.length = 129) (h1 : ∀ v ∈ cs, v.oneCell' = true) :
    (storeVar 76 ⟨w.heap.size, 0, none⟩ (.agg cs.toArray)).run Try.prog (w.alloc (.cells zMed 76)) = .ok () (w.alloc (.cells cs.toArray 76)) :=
  st_new w _ _ _ 129 sz_med zMed_size (by simpa using hl) (fun v hv => h1 v (by simpa using hv))
theorem st_wri (w : World) (cs : List Value) (hl : cs.length = 65) (h1 : ∀ v ∈ cs, v.oneCell' = true) :
    (storeVar 72 ⟨w.heap.size, 0, none⟩ (.agg cs.toArray)).run Try.prog (w.alloc (.cells zWri 72)) = .ok () (w.alloc (.cells cs.toArray 72)) :=
  st_new w _ _ _ 65 sz_wri zWri_size (by simpa using hl) (fun v hv => h1 v (by simpa using hv))
/-- The operations of whole values, for the walk. -/
theorem wl_con {ops : Array Oper} {rest : List Oper} {op : Oper} {a : Act} {w : World} {Q : Exit → Act → World → Prop} (hgd : op.guard = none) (x : Operand) (ho : op.op = .load 70 x) (b o : Nat) (hx : a.eval x = .pointer (some ⟨b, o, none⟩)) (cs : List Value) (hc : w.rangeAt b o cs) (hl : cs.length = 64)
    (h : wpList Try.prog ops Q rest (a.put op.dst (.agg cs.toArray)) w) : wpList Try.prog ops Q (op :: rest) a w := by
  obtain ⟨d, h1, h2⟩ := row_con
  exact wpList_load_mid hgd _ x ho b o hx cs d hc h1 h2 (by rw [sz_con, hl]) h
theorem wl_wri {ops : Array Oper} {rest : List Oper} {op : Oper} {a : Act} {w : World} {Q : Exit → Act → World → Prop} (hgd : op.guard = none) (x : Operand) (ho : op.op = .load 72 x) (b o : Nat) (hx : a.eval x = .pointer (some ⟨b, o, none⟩)) (cs : List Value) (hc : w.rangeAt b o cs) (hl : cs.length = 65)
    (h : wpList Try.prog ops Q rest (a.put op.dst (.agg cs.toArray)) w) : wpList Try.prog ops Q (op :: rest) a w := by
  obtain ⟨d, h1, h2⟩ := row_wri
  exact wpList_load_mid hgd _ x ho b o hx cs d hc h1 h2 (by rw [sz_wri, hl]) h
theorem wl_med {ops : Array Oper} {rest : List Oper} {op : Oper} {a : Act} {w : World} {Q : Exit → Act → World → Prop} (hgd : op.guard = none) (x : Operand) (ho : op.op = .load 76 x) (b o : Nat) (hx : a.eval x = .pointer (some ⟨b, o, none⟩)) (cs : List Value) (hc : w.rangeAt b o cs) (hl : cs.length = 129)
    (h : wpList Try.prog ops Q rest (a.put op.dst (.agg cs.toArray)) w) : wpList Try.prog ops Q (op :: rest) a w := by
  obtain ⟨d, h1, h2⟩ := row_med
  exact wpList_load_mid hgd _ x ho b o hx cs d hc h1 h2 (by rw [sz_med, hl]) h
theorem ws_new {ops : Array Oper} {rest : List Oper} {op : Oper} {a : Act} {w : World} {Q : Exit → Act → World → Prop} (hgd : op.guard = none) (ty : TypeId) (x y : Operand) (ho : op.op = .store ty x y) (c c' : Array Value) (n : Nat) (hx : a.eval x = .pointer (some ⟨w.heap.size, 0, none⟩)) (hy : a.eval y = .agg c')
    (hi : (Try.prog.info? ty).map (·.size) = some n) (hc : c.size = n) (hc' : c'.size = n) (h1 : ∀ v ∈ c', v.oneCell' = true) (h : wpList Try.prog ops Q rest (a.put op.dst undef) (w.alloc (.cells c' ty))) : wpList Try.prog ops Q (op :: rest) a (w.alloc (.cells c ty)) :=
  wpList_plain hgd fun _ hK => by
    unfold Oper.wp execOp
    simp only [ho, hx, hy, Instr.storeAt, Instr.sureAddr, Sem.run_bind, Sem.run_pure, Result.andThen_ok, st_new w ty c c' n hi hc hc' h1]
    exact hK _ _ h
theorem ws_med {ops : Array Oper} {rest : List Oper} {op : Oper} {a : Act} {w : World} {Q : Exit → Act → World → Prop} (hgd : op.guard = none) (x y : Operand) (ho : op.op = .store 76 x y) (cs : List Value) (hx : a.eval x = .pointer (some ⟨w.heap.size, 0, none⟩)) (hy : a.eval y = .agg cs.toArray)
    (hl : cs.length = 129) (h1 : ∀ v ∈ cs, v.oneCell' = true) (h : wpList Try.prog ops Q rest (a.put op.dst undef) (w.alloc (.cells cs.toArray 76))) : wpList Try.prog ops Q (op :: rest) a (w.alloc (.cells zMed 76)) :=
  ws_new hgd _ x y ho zMed _ 129 hx hy sz_med zMed_size (by simpa using hl) (fun v hv => h1 v (by simpa using hv)) h
theorem ws_wri {ops : Array Oper} {rest : List Oper} {op : Oper} {a : Act} {w : World} {Q : Exit → Act → World → Prop} (hgd : op.guard = none) (x y : Operand) (ho : op.op = .store 72 x y) (cs : List Value) (hx : a.eval x = .pointer (some ⟨w.heap.size, 0, none⟩)) (hy : a.eval y = .agg cs.toArray)
    (hl : cs.length = 65) (h1 : ∀ v ∈ cs, v.oneCell' = true) (h : wpList Try.prog ops Q rest (a.put op.dst undef) (w.alloc (.cells cs.toArray 72))) : wpList Try.prog ops Q (op :: rest) a (w.alloc (.cells zWri 72)) :=
  ws_new hgd _ x y ho zWri _ 65 hx hy sz_wri zWri_size (by simpa using hl) (fun v hv => h1 v (by simpa using hv)) h
/-- What lies in a block that was made of a list of cells. -/
theorem range_new (w : World) (t : TypeId) (cs pre mid post : List Value) (h : cs = pre ++ (mid ++ post)) (o : Nat) (ho : pre.length = o) : (w.alloc (.cells cs.toArray t)).rangeAt w.heap.size o mid := fun j v hv => by
  subst h; subst ho
  have hj : j < mid.length := (List.getElem?_eq_some_iff.1 hv).1
  rw [World.cell?_alloc_new]
  rw [List.getElem?_toArray, List.getElem?_append_right (by omega), Nat.add_sub_cancel_left, List.getElem?_append_left hj]
  exact hv
theorem MedAt.range {w : World} {g : Nat} {m : DM} (h : MedAt w g m) {s : Nat} (hs : s < m.size) : w.rangeAt g (s * 129) (m.sec s) := fun j v hv => by
  obtain ⟨cur, h1, _, h3⟩ := h
  rw [cell_of_row w g (s * 129 + j) cur _ _ h1]
  exact h3 s hs j v hv
theorem DM.Ok.rest_at {m : DM} (h : m.Ok) {s : Nat} (hs : s < m.size) : Sect (m.rest.getD s []) := by
  have hs' : s < m.rest.length := hs
  rw [List.getD_eq_getElem?_getD, List.getElem?_eq_getElem hs', Option.getD_some]
  exact h.rests _ (List.getElem_mem hs')
theorem DM.Ok.meant_at {m : DM} (h : m.Ok) {s : Nat} (hs : s < m.size) : Sect (m.meant.getD s []) := by
  have hs' : s < m.meant.length := by rw [h.meant]; exact hs
  rw [List.getD_eq_getElem?_getD, List.getElem?_eq_getElem hs', Option.getD_some]
  exact h.means _ (List.getElem_mem hs')
theorem DM.Ok.sec_len {m : DM} (h : m.Ok) {s : Nat} (hs : s < m.size) : (m.sec s).length = 129 := secC_len (h.rest_at hs).1 (h.meant_at hs).1

/-- Bytes that are told lie in a block that the call has made. -/
structure New (B : Nat) (w : World) (A : Option Addr) (n : Nat) (l : List Nat) : Prop where
  len : l.length = n
  lt : ∀ b ∈ l, b < 256
  at_ : (n = 0 ∧ A = none) ∨ ∃ g t, A = some ⟨g, 0, none⟩ ∧ B ≤ g ∧ w.heap[g]? = some (.cells (vb l).toArray t (0, 0))
  le : n ≤ 64
theorem New.none_ (B : Nat) (w : World) : New B w none 0 [] := ⟨rfl, by simp, .inl ⟨rfl, rfl⟩, by omega⟩
theorem New.by {B : Nat} {w : World} {A : Option Addr} {n : Nat} {l : List Nat} (h : New B w A n l) : By w A n n l := by
  have hn : n ≤ 9223372036854775807 := by have := h.le; omega
  rcases h.at_ with ⟨rfl, rfl⟩ | ⟨g, t, rfl, _, hg⟩
  · rw [List.eq_nil_of_length_eq_zero h.len]
    exact By.nil_ w
  · exact By.of_row hg (fun j x hx => vb_at hx) h.lt h.len (Nat.le_refl _) hn
theorem New.mod {B : Nat} {w w' : World} {A : Option Addr} {n : Nat} {l : List Nat} {F : Nat → Prop} (h : New B w A n l) (k : Mod F w w') (hF : ∀ p, A = some p → ¬ F p.block) : New B w' A n l := by
  refine ⟨h.len, h.lt, ?_, h.le⟩
  rcases h.at_ with h0 | ⟨g, t, e, hb, hg⟩
  · exact .inl h0
  · exact .inr ⟨g, t, e, hb, heap_mod hg k (hF _ e)⟩
theorem New.ext {B : Nat} {w w' : World} {A : Option Addr} {n : Nat} {l : List Nat} (h : New B w A n l) (k : Ext w w') : New B w' A n l := h.mod (F := fun _ => False) (Mod.of_ext k) fun _ _ h => h
theorem New.base {B B' : Nat} {w : World} {A : Option Addr} {n : Nat} {l : List Nat} (h : New B w A n l) (hB : B' ≤ B) : New B' w A n l :=
  ⟨h.len, h.lt, h.at_.imp id fun ⟨g, t, e, hb, hg⟩ => ⟨g, t, e, Nat.le_trans hB hb, hg⟩, h.le⟩
theorem New.off {B : Nat} {w : World} {A : Option Addr} {n : Nat} {l : List Nat} {F : Nat → Prop} (h : New B w A n l) (hF : ∀ i, F i → i < B) : Off F A := fun p hp hf => by
  rcases h.at_ with ⟨_, h0⟩ | ⟨g, t, e, hb, hg⟩
  · rw [h0] at hp; cases hp
  · rw [e] at hp
    injection hp with hp
    subst hp
    have := hF _ hf
    simp at this
    omega
/-- What a call told that answers bytes and what lies in a new block. -/
theorem New.alloc (w : World) (l : List Nat) (t : TypeId) (hl : Sect l) {B : Nat} (hB : B ≤ w.heap.size) : New B (w.alloc (.cells (vb l).toArray t)) (some ⟨w.heap.size, 0, none⟩) 64 l :=
  ⟨hl.1, hl.2, .inr ⟨_, t, rfl, hB, heap_alloc_new w _⟩, Nat.le_refl _⟩
theorem New.alloc2 (w : World) (o : Obj) (l : List Nat) (t : TypeId) (hl : Sect l) {B : Nat} (hB : B ≤ w.heap.size) : New B ((w.alloc o).alloc (.cells (vb l).toArray t)) (some ⟨w.heap.size + 1, 0, none⟩) 64 l := by
  rw [show w.heap.size + 1 = (w.alloc o).heap.size from by simp]
  exact New.alloc _ l t hl (by simp; omega)

set_option maxRecDepth 100000 in
set_option maxHeartbeats 800000 in
theorem told_of (l : List Nat) (w : World) :
    Calls Try.prog 47 #[.agg (vb l).toArray] w fun e w' => e = .returned (.slice (some ⟨w.heap.size, 0, none⟩) 64 64) ∧ w' = w.alloc (.cells (vb l).toArray 70) := by
  generalize (vb l).toArray = cs
  go_enter Try.func47, Try.ntmps47
  go_wp2
  go_ret
  exact ⟨rfl, rfl⟩
end Go.Proofs.Ytldgamgdbneneaa

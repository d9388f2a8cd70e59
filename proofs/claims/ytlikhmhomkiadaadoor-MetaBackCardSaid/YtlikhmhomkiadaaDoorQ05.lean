/-
  Whole sectors and writes, by value, out of and into memory: facts of the program's types, and the contract of told.
  The contracts of the disk's Rest and Meant.
  The contract of the disk's carryOut: a write is carried out.
  A slice of bytes that came in, opened by the guide's own law, read as a list of numbers.
-/
import Derived.Test.YtlikhmhomkiadaaDoorQ01
import Derived.Test.YtlikhmhomkiadaaDoorQ04
import Derived.Deep.WholeRow
import Derived.StillTailTactics
import Derived.Laws.Tables
import Derived.ProofKit
import Derived.OpenShut
namespace Go.Proofs.YtlikhmhomkiadaaDoor
set_option maxRecDepth 100000
open Go Go.RowKit

/-- The zero values' cells. -/
def zCon : Array Value := (vb z64).toArray
def zWri : Array Value := (wriC (0, z64)).toArray
def zMed : Array Value := (secC z64 z64 false).toArray
theorem con_info : (Tryd.prog.info? 80).map (fun i => (i.zero, i.size)) = some (some (.agg zCon), 64) := by kernel_rfl
theorem wri_info : (Tryd.prog.info? 82).map (fun i => (i.zero, i.size)) = some (some (.agg zWri), 65) := by kernel_rfl
theorem med_info : (Tryd.prog.info? 85).map (fun i => (i.zero, i.size)) = some (some (.agg zMed), 129) := by kernel_rfl
theorem zv_con (w : World) : (zeroValue 80).run Tryd.prog w = .ok (.agg zCon) w := (zero_of_info con_info).1 w
theorem zv_wri (w : World) : (zeroValue 82).run Tryd.prog w = .ok (.agg zWri) w := (zero_of_info wri_info).1 w
theorem zv_med (w : World) : (zeroValue 85).run Tryd.prog w = .ok (.agg zMed) w := (zero_of_info med_info).1 w
theorem sz_con : (Tryd.prog.info? 80).map (·.size) = some 64 := (zero_of_info con_info).2
theorem sz_wri : (Tryd.prog.info? 82).map (·.size) = some 65 := (zero_of_info wri_info).2
theorem sz_med : (Tryd.prog.info? 85).map (·.size) = some 129 := (zero_of_info med_info).2
theorem un_con : Tryd.prog.underlying 80 = some (.array 64 5) := Tryd.underlying80
theorem row_con : ∃ d, Tryd.prog.underlying 80 = some d ∧ d.isRow = true := ⟨_, Tryd.underlying80, rfl⟩
theorem row_wri : ∃ d, Tryd.prog.underlying 82 = some d ∧ d.isRow = true := ⟨_, Tryd.underlying82, rfl⟩
theorem row_med : ∃ d, Tryd.prog.underlying 85 = some d ∧ d.isRow = true := ⟨_, Tryd.underlying85, rfl⟩

/-- The loads of whole values. -/
theorem ld_con (w : World) (b o : Nat) (cs : List Value) (h : w.rangeAt b o cs) (hl : cs.length = 64) : (loadVar 80 ⟨b, o, none⟩).run Tryd.prog w = .ok (.agg cs.toArray) w := by
  obtain ⟨d, h1, h2⟩ := row_con
  exact run_loadVar_mid w b o _ cs d h h1 h2 (by rw [sz_con, hl])
theorem ld_wri (w : World) (b o : Nat) (cs : List Value) (h : w.rangeAt b o cs) (hl : cs.length = 65) : (loadVar 82 ⟨b, o, none⟩).run Tryd.prog w = .ok (.agg cs.toArray) w := by
  obtain ⟨d, h1, h2⟩ := row_wri
  exact run_loadVar_mid w b o _ cs d h h1 h2 (by rw [sz_wri, hl])
theorem ld_med (w : World) (b o : Nat) (cs : List Value) (h : w.rangeAt b o cs) (hl : cs.length = 129) : (loadVar 85 ⟨b, o, none⟩).run Tryd.prog w = .ok (.agg cs.toArray) w := by
  obtain ⟨d, h1, h2⟩ := row_med
  exact run_loadVar_mid w b o _ cs d h h1 h2 (by rw [sz_med, hl])
/-- A whole value into the block that was made last. -/
theorem st_new (w : World) (t : TypeId) (c c' : Array Value) (n : Nat) (hi : (Tryd.prog.info? t).map (·.size) = some n) (hc : c.size = n) (hc' : c'.size = n) (h1 : ∀ v ∈ c', v.oneCell' = true) :
    (storeVar t ⟨w.heap.size, 0, none⟩ (.agg c')).run Tryd.prog (w.alloc (.cells c t)) = .ok () (w.alloc (.cells c' t)) :=
  run_storeVar_new w t c c' (by rw [hi, hc']) (by rw [hc, hc']) (Array.all_eq_true_iff_forall_mem.2 h1)
theorem zMed_size : zMed.size = 129 := by simp [zMed, secC, vb_length, z64]
theorem zWri_size : zWri.size = 65 := by simp [zWri, wriC, vb_length, z64]
theorem zCon_size : zCon.size = 64 := by simp [zCon, vb_length, z64]
theorem st_med (w : World) (cs : List Value) (hl : cs.length = 129) (h1 : ∀ v ∈ cs, v.oneCell' = true) :
    (storeVar 85 ⟨w.heap.size, 0, none⟩ (.agg cs.toArray)).run Tryd.prog (w.alloc (.cells zMed 85)) = .ok () (w.alloc (.cells cs.toArray 85)) :=
  st_new w _ _ _ 129 sz_med zMed_size (by simpa using hl) (fun v hv => h1 v (by simpa using hv))
theorem st_wri (w : World) (cs : List Value) (hl : cs.length = 65) (h1 : ∀ v ∈ cs, v.oneCell' = true) :
    (storeVar 82 ⟨w.heap.size, 0, none⟩ (.agg cs.toArray)).run Tryd.prog (w.alloc (.cells zWri 82)) = .ok () (w.alloc (.cells cs.toArray 82)) :=
  st_new w _ _ _ 65 sz_wri zWri_size (by simpa using hl) (fun v hv => h1 v (by simpa using hv))
/-- The operations of whole values, for the walk. -/
theorem wl_con {ops : Array Oper} {rest : List Oper} {op : Oper} {a : Act} {w : World} {Q : Exit → Act → World → Prop} (hgd : op.guard = none) (x : Operand) (ho : op.op = .load 80 x) (b o : Nat) (hx : a.eval x = .pointer (some ⟨b, o, none⟩)) (cs : List Value) (hc : w.rangeAt b o cs) (hl : cs.length = 64)
    (h : wpList Tryd.prog ops Q rest (a.put op.dst (.agg cs.toArray)) w) : wpList Tryd.prog ops Q (op :: rest) a w := by
  obtain ⟨d, h1, h2⟩ := row_con
  exact wpList_load_mid hgd _ x ho b o hx cs d hc h1 h2 (by rw [sz_con, hl]) h
theorem wl_wri {ops : Array Oper} {rest : List Oper} {op : Oper} {a : Act} {w : World} {Q : Exit → Act → World → Prop} (hgd : op.guard = none) (x : Operand) (ho : op.op = .load 82 x) (b o : Nat) (hx : a.eval x = .pointer (some ⟨b, o, none⟩)) (cs : List Value) (hc : w.rangeAt b o cs) (hl : cs.length = 65)
    (h : wpList Tryd.prog ops Q rest (a.put op.dst (.agg cs.toArray)) w) : wpList Tryd.prog ops Q (op :: rest) a w := by
  obtain ⟨d, h1, h2⟩ := row_wri
  exact wpList_load_mid hgd _ x ho b o hx cs d hc h1 h2 (by rw [sz_wri, hl]) h
theorem wl_med {ops : Array Oper} {rest : List Oper} {op : Oper} {a : Act} {w : World} {Q : Exit → Act → World → Prop} (hgd : op.guard = none) (x : Operand) (ho : op.op = .load 85 x) (b o : Nat) (hx : a.eval x = .pointer (some ⟨b, o, none⟩)) (cs : List Value) (hc : w.rangeAt b o cs) (hl : cs.length = 129)
    (h : wpList Tryd.prog ops Q rest (a.put op.dst (.agg cs.toArray)) w) : wpList Tryd.prog ops Q (op :: rest) a w := by
  obtain ⟨d, h1, h2⟩ := row_med
  exact wpList_load_mid hgd _ x ho b o hx cs d hc h1 h2 (by rw [sz_med, hl]) h
theorem ws_new {ops : Array Oper} {rest : List Oper} {op : Oper} {a : Act} {w : World} {Q : Exit → Act → World → Prop} (hgd : op.guard = none) (ty : TypeId) (x y : Operand) (ho : op.op = .store ty x y) (c c' : Array Value) (n : Nat) (hx : a.eval x = .pointer (some ⟨w.heap.size, 0, none⟩)) (hy : a.eval y = .agg c')
    (hi : (Tryd.prog.info? ty).map (·.size) = some n) (hc : c.size = n) (hc' : c'.size = n) (h1 : ∀ v ∈ c', v.oneCell' = true) (h : wpList Tryd.prog ops Q rest (a.put op.dst undef) (w.alloc (.cells c' ty))) : wpList Tryd.prog ops Q (op :: rest) a (w.alloc (.cells c ty)) :=
  wpList_plain hgd fun _ hK => by
    unfold Oper.wp execOp
    simp only [ho, hx, hy, Instr.storeAt, Instr.sureAddr, Sem.run_bind, Sem.run_pure, Result.andThen_ok, st_new w ty c c' n hi hc hc' h1]
    exact hK _ _ h
theorem ws_med {ops : Array Oper} {rest : List Oper} {op : Oper} {a : Act} {w : World} {Q : Exit → Act → World → Prop} (hgd : op.guard = none) (x y : Operand) (ho : op.op = .store 85 x y) (cs : List Value) (hx : a.eval x = .pointer (some ⟨w.heap.size, 0, none⟩)) (hy : a.eval y = .agg cs.toArray)
    (hl : cs.length = 129) (h1 : ∀ v ∈ cs, v.oneCell' = true) (h : wpList Tryd.prog ops Q rest (a.put op.dst undef) (w.alloc (.cells cs.toArray 85))) : wpList Tryd.prog ops Q (op :: rest) a (w.alloc (.cells zMed 85)) :=
  ws_new hgd _ x y ho zMed _ 129 hx hy sz_med zMed_size (by simpa using hl) (fun v hv => h1 v (by simpa using hv)) h
theorem ws_wri {ops : Array Oper} {rest : List Oper} {op : Oper} {a : Act} {w : World} {Q : Exit → Act → World → Prop} (hgd : op.guard = none) (x y : Operand) (ho : op.op = .store 82 x y) (cs : List Value) (hx : a.eval x = .pointer (some ⟨w.heap.size, 0, none⟩)) (hy : a.eval y = .agg cs.toArray)
    (hl : cs.length = 65) (h1 : ∀ v ∈ cs, v.oneCell' = true) (h : wpList Tryd.prog ops Q rest (a.put op.dst undef) (w.alloc (.cells cs.toArray 82))) : wpList Tryd.prog ops Q (op :: rest) a (w.alloc (.cells zWri 82)) :=
  ws_new hgd _ x y ho zWri _ 65 hx hy sz_wri zWri_size (by simpa using hl) (fun v hv => h1 v (by simpa using hv)) h
/-- What lies in a block that was made of a list of cells. -/
theorem range_new (w : World) (t : TypeId) (cs pre mid post : List Value) (h : cs = pre ++ (mid ++ post)) (o : Nat) (ho : pre.length = o) : (w.alloc (.cells cs.toArray t)).rangeAt w.heap.size o mid := fun j v hv => by
  subst h; subst ho
  have hj : j < mid.length := (List.getElem?_eq_some_iff.1 hv).1
  rw [World.cell?_alloc_new]
  rw [List.getElem?_toArray, List.getElem?_append_right (by omega), Nat.add_sub_cancel_left, List.getElem?_append_left hj]
  exact hv
theorem MedAt.range {w : World} {g : Nat} {m : DM} (h : MedAt w g m) {s : Nat} (hs : s < m.size) : w.rangeAt g (s * 129) (m.sec s) := fun j v hv => by
  obtain ⟨cur, h1, _, h3⟩ := h
  rw [cell_of_row w g (s * 129 + j) cur _ _ h1]
  exact h3 s hs j v hv
theorem DM.Ok.rest_at {m : DM} (h : m.Ok) {s : Nat} (hs : s < m.size) : Sect (m.rest.getD s []) := by
  have hs' : s < m.rest.length := hs
  rw [List.getD_eq_getElem?_getD, List.getElem?_eq_getElem hs', Option.getD_some]
  exact h.rests _ (List.getElem_mem hs')
theorem DM.Ok.meant_at {m : DM} (h : m.Ok) {s : Nat} (hs : s < m.size) : Sect (m.meant.getD s []) := by
  have hs' : s < m.meant.length := by rw [h.meant]; exact hs
  rw [List.getD_eq_getElem?_getD, List.getElem?_eq_getElem hs', Option.getD_some]
  exact h.means _ (List.getElem_mem hs')
theorem DM.Ok.sec_len {m : DM} (h : m.Ok) {s : Nat} (hs : s < m.size) : (m.sec s).length = 129 := secC_len (h.rest_at hs).1 (h.meant_at hs).1

/-- Bytes that are told lie in a block that the call has made. -/
structure New (B : Nat) (w : World) (A : Option Addr) (n : Nat) (l : List Nat) : Prop where
  len : l.length = n
  lt : ∀ b ∈ l, b < 256
  at_ : (n = 0 ∧ A = none) ∨ ∃ g t, A = some ⟨g, 0, none⟩ ∧ B ≤ g ∧ w.heap[g]? = some (.cells (vb l).toArray t (0, 0))
  le : n ≤ 64
theorem New.none_ (B : Nat) (w : World) : New B w none 0 [] := ⟨rfl, by simp, .inl ⟨rfl, rfl⟩, by omega⟩
theorem New.by {B : Nat} {w : World} {A : Option Addr} {n : Nat} {l : List Nat} (h : New B w A n l) : By w A n n l := by
  have hn : n ≤ 9223372036854775807 := by have := h.le; omega
  rcases h.at_ with ⟨rfl, rfl⟩ | ⟨g, t, rfl, _, hg⟩
  · rw [List.eq_nil_of_length_eq_zero h.len]
    exact By.nil_ w
  · exact By.of_row hg (fun j x hx => vb_at hx) h.lt h.len (Nat.le_refl _) hn
theorem New.mod {B : Nat} {w w' : World} {A : Option Addr} {n : Nat} {l : List Nat} {F : Nat → Prop} (h : New B w A n l) (k : Mod F w w') (hF : ∀ p, A = some p → ¬ F p.block) : New B w' A n l := by
  refine ⟨h.len, h.lt, ?_, h.le⟩
  rcases h.at_ with h0 | ⟨g, t, e, hb, hg⟩
  · exact .inl h0
  · exact .inr ⟨g, t, e, hb, heap_mod hg k (hF _ e)⟩
theorem New.ext {B : Nat} {w w' : World} {A : Option Addr} {n : Nat} {l : List Nat} (h : New B w A n l) (k : Ext w w') : New B w' A n l := h.mod (F := fun _ => False) (Mod.of_ext k) fun _ _ h => h
theorem New.base {B B' : Nat} {w : World} {A : Option Addr} {n : Nat} {l : List Nat} (h : New B w A n l) (hB : B' ≤ B) : New B' w A n l :=
  ⟨h.len, h.lt, h.at_.imp id fun ⟨g, t, e, hb, hg⟩ => ⟨g, t, e, Nat.le_trans hB hb, hg⟩, h.le⟩
theorem New.off {B : Nat} {w : World} {A : Option Addr} {n : Nat} {l : List Nat} {F : Nat → Prop} (h : New B w A n l) (hF : ∀ i, F i → i < B) : Off F A := fun p hp hf => by
  rcases h.at_ with ⟨_, h0⟩ | ⟨g, t, e, hb, hg⟩
  · rw [h0] at hp; cases hp
  · rw [e] at hp
    injection hp with hp
    subst hp
    have := hF _ hf
    simp at this
    omega
/-- What a call told that answers bytes and what lies in a new block. -/
theorem New.alloc (w : World) (l : List Nat) (t : TypeId) (hl : Sect l) {B : Nat} (hB : B ≤ w.heap.size) : New B (w.alloc (.cells (vb l).toArray t)) (some ⟨w.heap.size, 0, none⟩) 64 l :=
  ⟨hl.1, hl.2, .inr ⟨_, t, rfl, hB, heap_alloc_new w _⟩, Nat.le_refl _⟩
theorem New.alloc2 (w : World) (o : Obj) (l : List Nat) (t : TypeId) (hl : Sect l) {B : Nat} (hB : B ≤ w.heap.size) : New B ((w.alloc o).alloc (.cells (vb l).toArray t)) (some ⟨w.heap.size + 1, 0, none⟩) 64 l := by
  rw [show w.heap.size + 1 = (w.alloc o).heap.size from by simp]
  exact New.alloc _ l t hl (by simp; omega)

set_option maxRecDepth 100000 in
set_option maxHeartbeats 800000 in
theorem told_of (l : List Nat) (w : World) :
    Calls Tryd.prog 79 #[.agg (vb l).toArray] w fun e w' => e = .returned (.slice (some ⟨w.heap.size, 0, none⟩) 64 64) ∧ w' = w.alloc (.cells (vb l).toArray 80) := by
  generalize (vb l).toArray = cs
  go_enter Tryd.func79, Tryd.ntmps79
  go_wp2
  go_ret
  exact ⟨rfl, rfl⟩
end Go.Proofs.YtlikhmhomkiadaaDoor

namespace Go.Proofs.YtlikhmhomkiadaaDoor
set_option maxRecDepth 100000
open Go Go.RowKit

theorem known_one (m : DM) (s : Int) : knownE m.size [s] = if m.has s = false then 2 else 0 := by
  unfold knownE DM.has
  by_cases h : 0 ≤ s ∧ s < (m.size : Int)
  · rw [if_pos (by simpa using h)]; simp [h]
  · rw [if_neg (by simpa using h)]
    rw [if_pos]
    simp only [Bool.and_eq_false_iff, decide_eq_false_iff_not]
    omega
/-- One number, in a slice of its own. -/
theorem ZsAt.one (w : World) (s : Int) (t : TypeId) : ZsAt (w.alloc (.cells #[.int .i64 s] t)) (some ⟨w.heap.size, 0, none⟩) 1 [s] := by
  refine ⟨rfl, by omega, fun _ => ⟨_, rfl, fun j z hz => ?_⟩⟩
  rw [World.cell?_alloc_new]
  have hj : j < 1 := (List.getElem?_eq_some_iff.1 hz).1
  obtain rfl : j = 0 := by omega
  simp at hz
  subst hz
  rfl
theorem PD.ext {w w' : World} {d g : Nat} {pv : Value} {m : DM} (h : PD w d g pv m) (k : Ext w w') : PD w' d g pv m := h.mod (F := fun _ => False) (Mod.of_ext k) fun _ _ h => h
theorem sec_lost {m : DM} (h : m.Ok) {s : Nat} (hs : s < m.size) : (m.sec s)[128]? = some (.bool (m.lost.getD s false)) := by
  have h1 := (h.rest_at hs).1
  have h2 := (h.meant_at hs).1
  show (vb (m.rest.getD s []) ++ (vb (m.meant.getD s []) ++ [Value.bool (m.lost.getD s false)]))[128]? = _
  rw [List.getElem?_append_right (by rw [vb_length]; omega), List.getElem?_append_right (by rw [vb_length, vb_length]; omega), vb_length, vb_length, h1, h2]
  rfl
theorem sec_cut (m : DM) (s : Nat) : m.sec s = vb (m.rest.getD s []) ++ (vb (m.meant.getD s []) ++ [.bool (m.lost.getD s false)]) := rfl

theorem PD.means_eq {m : DM} (s : Int) : m.means s = if m.has s = false then ([], 2) else (m.meant.getD s.toNat [], 0) := rfl
end Go.Proofs.YtlikhmhomkiadaaDoor

namespace Go.Proofs.YtlikhmhomkiadaaDoor
set_option maxRecDepth 100000
open Go Go.RowKit

/-- Cells stored into a known block. -/
theorem heap_setCells {g t : Nat} {fr : Nat × Nat} : ∀ (vs : List Value) (o : Nat) {w : World} {cs : Array Value}, w.heap[g]? = some (.cells cs t fr) → o + vs.length ≤ cs.size →
    ∃ cs' : Array Value, (w.setCells g o vs).heap[g]? = some (.cells cs' t fr) ∧ cs'.size = cs.size ∧ (∀ j v, vs[j]? = some v → cs'[o + j]? = some v) ∧ ∀ k, k < o ∨ o + vs.length ≤ k → cs'[k]? = cs[k]?
  | [], o, w, cs, h, _ => ⟨cs, h, rfl, fun j v hv => by simp at hv, fun _ _ => rfl⟩
  | x :: r, o, w, cs, h, hl => by
    simp only [List.length_cons] at hl
    have hrow := row_set o h x rfl
    obtain ⟨cs', h1, h2, h3, h4⟩ := heap_setCells r (o + 1) hrow (by simp; omega)
    refine ⟨cs', h1, by rw [h2]; simp, fun j v hv => ?_, fun k hk => ?_⟩
    · cases j with
      | zero =>
        simp only [List.getElem?_cons_zero, Option.some.injEq] at hv
        subst hv
        rw [Nat.add_zero, h4 o (.inl (by omega)), Array.getElem?_setIfInBounds, if_pos rfl, if_pos (by omega)]
      | succ j =>
        have := h3 j v (by simpa using hv)
        rwa [show o + (j + 1) = o + 1 + j by omega]
    · simp only [List.length_cons] at hk
      rw [h4 k (by omega), Array.getElem?_setIfInBounds]
      rw [if_neg (by omega)]
theorem mod_setCells (w : World) (g o : Nat) (vs : List Value) : Mod (fun i => i = g) w (w.setCells g o vs) := (Mod.refl _ _).setCells g o vs (.inl rfl)
/-- Sectors of which one has another range of cells. -/
theorem MedAt.set {w : World} {g : Nat} {m m' : DM} (h : MedAt w g m) {s : Nat} (hs : s < m.size) (o : Nat) (vs : List Value) (hz : m'.size = m.size) (hin : o + vs.length ≤ 129)
    (hoth : ∀ i, i < m.size → i ≠ s → m'.sec i = m.sec i) (hlen : ∀ i, i < m.size → (m'.sec i).length = 129)
    (hsec : ∀ j v, (m'.sec s)[j]? = some v → if o ≤ j ∧ j < o + vs.length then vs[j - o]? = some v else (m.sec s)[j]? = some v) : MedAt (w.setCells g (s * 129 + o) vs) g m' := by
  obtain ⟨cur, h1, h2, h3⟩ := h
  have hle : (s + 1) * 129 ≤ m.size * 129 := Nat.mul_le_mul_right _ hs
  obtain ⟨cs', c1, c2, c3, c4⟩ := heap_setCells vs (s * 129 + o) h1 (by omega)
  refine ⟨cs', c1, by rw [c2, h2, hz], fun i hi j v hv => ?_⟩
  rw [hz] at hi
  have hj : j < 129 := by rw [← hlen i hi]; exact (List.getElem?_eq_some_iff.1 hv).1
  by_cases he : i = s
  · subst he
    have hh := hsec j v hv
    split at hh
    · rename_i hr
      have := c3 (j - o) v hh
      rwa [show i * 129 + o + (j - o) = i * 129 + j by omega] at this
    · rename_i hr
      rw [c4 _ (by omega)]
      exact h3 i hi j v hh
  · rw [hoth i hi he] at hv
    have hne : i * 129 + j < s * 129 ∨ s * 129 + 129 ≤ i * 129 + j := by
      rcases Nat.lt_or_gt_of_ne he with hlt | hgt
      · left
        have : (i + 1) * 129 ≤ s * 129 := Nat.mul_le_mul_right _ hlt
        omega
      · right
        have : (s + 1) * 129 ≤ i * 129 := Nat.mul_le_mul_right _ hgt
        omega
    rw [c4 _ (by omega)]
    exact h3 i hi j v hv
theorem come_sec {m : DM} (h : m.Ok) {x : Nat × List Nat} (hx : x.1 < m.size) (i : Nat) : (m.come x).sec i = if i = x.1 then secC x.2 x.2 false else m.sec i := by
  unfold DM.sec DM.come
  by_cases e : x.1 = i
  · subst e
    rw [if_pos rfl]
    simp only
    rw [getD_set (show x.1 < m.rest.length from hx), getD_set (show x.1 < m.meant.length by rw [h.meant]; exact hx), getD_set (show x.1 < m.lost.length by rw [h.lost]; exact hx), if_pos rfl, if_pos rfl, if_pos rfl]
  · rw [if_neg (fun h => e h.symm)]
    simp only
    rw [getD_set_ne e, getD_set_ne e, getD_set_ne e]
theorem PD.come {w : World} {d g : Nat} {pv : Value} {m : DM} (h : PD w d g pv m) {x : Nat × List Nat} (hx2 : Sect x.2) {w' : World} (hm : Mod (fun i => i = g) w w') (hmed : MedAt w' g (m.come x)) : PD w' d g pv (m.come x) := by
  have hz := DM.come_size m x
  refine ⟨DM.come_ok h.ok hx2, by rw [hz]; exact h.n1, h.top, ?_, hmed, ?_, h.dg, h.pd⟩
  · rw [hz]
    exact heap_mod h.head hm h.dg
  · exact own_mod h.pen hm fun i hi => (h.pd i hi).2

/-- What a medium built of contents is. -/
theorem fold_set : ∀ (cs : List Value) (k : Nat) (o : Nat) (A : Array Value), (cs.zipIdx k).foldl (fun a (p : Value × Nat) => a.setIfInBounds (o + p.2) p.1) A = (cs.zipIdx (o + k)).foldl (fun a (p : Value × Nat) => a.setIfInBounds p.2 p.1) A
  | [], _, _, _ => rfl
  | c :: cs, k, o, A => by
    simp only [List.zipIdx_cons, List.foldl_cons]
    rw [fold_set cs (k + 1) o _]
    rfl
theorem fold_put : ∀ (cs pre mid post : List Value), mid.length = cs.length → (cs.zipIdx pre.length).foldl (fun (a : Array Value) (p : Value × Nat) => a.setIfInBounds p.2 p.1) (pre ++ (mid ++ post)).toArray = (pre ++ (cs ++ post)).toArray
  | [], pre, mid, post, h => by
    obtain rfl := List.eq_nil_of_length_eq_zero (by simpa using h)
    rfl
  | c :: cs, pre, [], post, h => by simp at h
  | c :: cs, pre, x :: mid, post, h => by
    simp only [List.zipIdx_cons, List.foldl_cons]
    have e : (pre ++ (x :: mid ++ post)).toArray.setIfInBounds pre.length c = ((pre ++ [c]) ++ (mid ++ post)).toArray := by
      simp
    rw [e]
    have := fold_put cs (pre ++ [c]) mid post (by simpa using h)
    rw [show (pre ++ [c]).length = pre.length + 1 by simp] at this
    rw [this]
    simp
theorem fill_one (place : Nat → Option (Nat × Nat)) (i : Nat) (cs pre mid post : List Value) (n : Nat) (hp : place i = some (pre.length, n)) (hn : cs.length = n) (hm : mid.length = n) (rest : List (Nat × Value)) :
    Instr.fill place (pre ++ (mid ++ post)).toArray ((i, .agg cs.toArray) :: rest) = Instr.fill place (pre ++ (cs ++ post)).toArray rest := by
  rw [Instr.fill]
  simp only [hp]
  have e1 : (Value.agg cs.toArray).cells = cs.toArray := rfl
  rw [e1]
  rw [if_neg (by simp; omega)]
  congr 1
  have := fold_put cs pre mid post (by omega)
  rw [← this]
  have h2 := fold_set cs 0 pre.length (pre ++ (mid ++ post)).toArray
  rw [Nat.add_zero] at h2
  rw [← h2]
  simp
theorem med_built (a b : List Nat) (ha : a.length = 64) (hb : b.length = 64) : Tryd.prog.built 85 [(0, .agg (vb a).toArray), (1, .agg (vb b).toArray)] = some (secC a b false).toArray := by
  have key : ∃ places, Tryd.prog.built 85 [(0, .agg (vb a).toArray), (1, .agg (vb b).toArray)] = Instr.fill (fun i => (places : Array (Nat × Nat))[i]?) zMed [(0, .agg (vb a).toArray), (1, .agg (vb b).toArray)] ∧ places[0]? = some (0, 64) ∧ places[1]? = some (64, 64) := by
    refine ⟨#[(0, 64), (64, 64), (128, 1)], ?_, rfl, rfl⟩
    kernel_rfl
  obtain ⟨places, h1, h2, h3⟩ := key
  rw [h1]
  have z0 : zMed = ([] ++ (vb z64 ++ (vb z64 ++ [Value.bool false]))).toArray := rfl
  rw [z0, fill_one _ 0 (vb a) [] (vb z64) (vb z64 ++ [Value.bool false]) 64 h2 (by rw [vb_length, ha]) (by simp [vb_length, z64])]
  rw [List.nil_append]
  rw [fill_one _ 1 (vb b) (vb a) (vb z64) [Value.bool false] 64 (by rw [vb_length, ha]; exact h3) (by rw [vb_length, hb]) (by simp [vb_length, z64])]
  rfl

theorem still_load {ops : Array Oper} {o : Oper} {a : Act} {w : World} {K : Act → Prop} (ty : TypeId) (x : Operand) (ho : o.op = .load ty x) (b p : Nat) (hx : a.eval x = .pointer (some ⟨b, p, none⟩)) (cs : List Value) (d : TypeDesc) (hc : w.rangeAt b p cs)
    (hu : Tryd.prog.underlying ty = some d) (hd : d.isRow = true) (hi : (Tryd.prog.info? ty).map (·.size) = some cs.length) (hw : Region.wanted o (yielded ops a.tmps) = true) (h : K (a.put o.dst (.agg cs.toArray))) :
    if Region.wanted o (yielded ops a.tmps) then o.still Tryd.prog a w K else K (a.put o.dst undef) := by
  rw [if_pos hw]
  unfold Oper.still execOp
  simp only [ho, hx, Instr.loadAt, Instr.sureAddr, Sem.run_bind, Sem.run_pure, Result.andThen_ok, run_loadVar_mid w b p ty cs d hc hu hd hi, Oper.stillUpon_value]
  exact h
theorem still_build {ops : Array Oper} {o : Oper} {a : Act} {w : World} {K : Act → Prop} (t : TypeId) (parts : Array (Nat × Operand)) (ho : o.op = .build t parts) (cells : Array Value) (hb : Tryd.prog.built t (parts.map fun (i, x) => (i, a.eval x)).toList = some cells)
    (hw : Region.wanted o (yielded ops a.tmps) = true) (h : K (a.put o.dst (.agg cells))) : if Region.wanted o (yielded ops a.tmps) then o.still Tryd.prog a w K else K (a.put o.dst undef) := by
  rw [if_pos hw]
  unfold Oper.still execOp
  simp only [ho, Sem.run_bind, run_build w t _ cells hb, Result.andThen_ok, Sem.run_pure, Oper.stillUpon_value]
  exact h
theorem still_tail {id : Nat} {Q : Exit → Act → World → Prop} {a : Act} {w : World} {l : List Oper} (n : Nat) (hm : Tryd.prog.follows .mixedOrders = true) (hB : Region.lexTailB .any l.toArray n = true)
    (h : wpStill Tryd.prog l.toArray w.drew (fun a' => wpList Tryd.prog l.toArray Q (l.drop n) a' w.drew) (l.take n) a) : (Code.region id l.toArray true).wp Tryd.prog Q a w := wp_region_still_tail n hm hB h
theorem wri_cut (x : Nat × List Nat) : wriC x = vb x.2 ++ [.int .i64 (x.1 : Int)] := rfl
theorem wri_64 {x : Nat × List Nat} (h : x.2.length = 64) : (wriC x)[64]? = some (.int .i64 (x.1 : Int)) := by
  rw [wri_cut, List.getElem?_append_right (by rw [vb_length]; omega), vb_length, h]
  rfl
theorem there_of {w : World} {g t : Nat} {cs : Array Value} (h : w.heap[g]? = some (.cells cs t (0, 0))) (o n : Nat) (hn : o + n ≤ cs.size) : w.there g o n := fun j hj => by
  refine ⟨?_, frozen_of_row w g _ _ _ h⟩
  rw [cell_of_row w g (o + j) cs t (0, 0) h, Array.getElem?_eq_getElem (by omega)]
  rfl

set_option maxRecDepth 100000 in
set_option maxHeartbeats 1600000 in
theorem carry_of {w : World} {d g : Nat} {pv : Value} {m : DM} (h : PD w d g pv m) (x : Nat × List Nat) (hx : x.1 < m.size) (hx2 : Sect x.2) :
    Calls Tryd.prog 38 #[.pointer (some ⟨d, 0, none⟩), .agg (wriC x).toArray] w fun e w' => (∃ v, e = .returned v) ∧ PD w' d g pv (m.come x) ∧ Mod (fun i => i = g) w w' := by
  have H := Lib.hid h
  have hE := ((Ext.refl w).alloc (.cells (wriC x).toArray 82)).drew
  have H2 := Lib.hid (h.ext hE)
  obtain ⟨⟨c0, c1, c2, c3, c4⟩, f0, f1, f2, f3, f4⟩ := (h.ext hE).cells
  have hb64 : (w.alloc (.cells (wriC x).toArray 82)).drew.cell? ⟨w.heap.size, 64, none⟩ = some (.int .i64 (x.1 : Int)) := by
    rw [show (w.alloc (.cells (wriC x).toArray 82)).drew.cell? ⟨w.heap.size, 64, none⟩ = (w.alloc (.cells (wriC x).toArray 82)).cell? ⟨w.heap.size, 64, none⟩ from rfl, World.cell?_alloc_new, List.getElem?_toArray, wri_64 hx2.1]
  have HR : Hid ((w.alloc (.cells (wriC x).toArray 82)).drew.rangeAt w.heap.size 0 (vb x.2)) := Lib.hid (range_new w _ _ [] _ _ (wri_cut x) 0 rfl)
  have HX := Lib.hid hx2
  have HB := Lib.hid (med_built x.2 x.2 hx2.1 hx2.1)
  have HE := Lib.hid hE
  have hlt : (x.1 : Int) < (m.size : Nat) := by omega
  have hge : (0 : Int) ≤ (x.1 : Int) := by omega
  clear h hE hx2 f0 f1 f2 f3 f4 c0 c1 c2 c4
  go_enter Tryd.func38, Tryd.ntmps38
  go_wp2_with fail
  refine still_tail 12 (by kernel_rfl) (by kernel_rfl) ?_
  simp only [List.take_succ_cons, List.take_zero, List.drop_succ_cons, List.drop_zero]
  generalize (w.alloc (.cells (wriC x).toArray 82)).drew = w2 at *
  still_step
  still_step
  still_step
  still_step
  still_step
  still_step
  still_step
  refine wpStill_step (fun K hK => ?_)
  refine still_load 80 _ rfl w.heap.size 0 rfl (vb x.2) _ HR.out Tryd.underlying80 rfl (by rw [sz_con, vb_length, HX.out.1]) (by rfl) (hK _ ?_)
  clear hK K
  still_step
  refine wpStill_step (fun K hK => ?_)
  refine still_load 80 _ rfl w.heap.size 0 rfl (vb x.2) _ HR.out Tryd.underlying80 rfl (by rw [sz_con, vb_length, HX.out.1]) (by rfl) (hK _ ?_)
  clear hK K
  refine wpStill_step (fun K hK => ?_)
  refine still_build 85 _ rfl (secC x.2 x.2 false).toArray (by simpa [Act.eval, Act.put] using HB.out) (by rfl) (hK _ ?_)
  clear hK K
  still_step
  refine wpStill_nil ?_
  obtain ⟨cur, hg, hsz, hcur⟩ := H2.out.med
  have hle : (x.1 + 1) * 129 ≤ m.size * 129 := Nat.mul_le_mul_right _ hx
  have hlen : (secC x.2 x.2 false).length = 129 := secC_len HX.out.1 HX.out.1
  have HTH : Hid (w2.there g (x.1 * 129) (secC x.2 x.2 false).toArray.size) := Lib.hid (there_of hg _ _ (by rw [List.size_toArray, hlen, hsz]; omega))
  have HSZ : Hid ((Tryd.prog.info? 85).map (·.size) = some (secC x.2 x.2 false).toArray.size) := Lib.hid (by rw [sz_med, List.size_toArray, hlen])
  clear hcur hg hsz hle hlen c3 hb64
  go_wp2_with (refine wpList_store_mid rfl 85 _ _ rfl g (x.1 * 129) (secC x.2 x.2 false).toArray rfl rfl HTH.out HSZ.out (all_oneCell_toArray (secC_one _ _ _)) ?_)
  go_end0
  have hm : Mod (fun i => i = g) w (w2.setCells g (x.1 * 129) (secC x.2 x.2 false)) := (Mod.of_ext (F := fun i => i = g) HE.out).trans (mod_setCells w2 g _ _) fun _ hi => .inl hi
  refine ⟨⟨_, rfl⟩, H.out.come HX.out hm ?_, hm⟩
  have hlen : (secC x.2 x.2 false).length = 129 := secC_len HX.out.1 HX.out.1
  refine MedAt.set (m' := m.come x) H2.out.med hx 0 (secC x.2 x.2 false) (DM.come_size m x) (by omega) (fun i hi hne => ?_) (fun i hi => ?_) (fun j v hv => ?_)
  · rw [come_sec H2.out.ok hx, if_neg hne]
  · rw [come_sec H2.out.ok hx]
    split
    · exact hlen
    · exact H2.out.ok.sec_len hi
  · rw [come_sec H2.out.ok hx, if_pos rfl] at hv
    have hj : j < (secC x.2 x.2 false).length := (List.getElem?_eq_some_iff.1 hv).1
    rw [if_pos ⟨by omega, by omega⟩]
    exact hv
end Go.Proofs.YtlikhmhomkiadaaDoor

namespace Go.Proofs.YtlikhmhomkiadaaDoor
set_option maxRecDepth 100000
open Go Go.RowKit Go.ChangeShapes Go.WideShapes

theorem bs_of_row {w : World} {x : Addr} {n c : Nat} {zs : List Int} (hl : n ≤ c) (hm : c ≤ maxLen) (hz : zs.length = c) (hcell : ∀ i, i < zs.length → w.cell? (x.add i) = some (.int .u8 (zs.getD i 0))) (hwz : ∀ z ∈ zs, (Lit.int .u8 z).wf = true) :
    Bs w w.heap.size (some x) n c ((zs.take n).map Int.toNat) := by
  have hb : ∀ z ∈ zs, 0 ≤ z ∧ z < 256 := by
    intro z hzm
    have := bounds_u8 (hwz z hzm)
    omega
  refine ⟨by simp [hz, hl], hl, by unfold maxLen at hm; exact hm, ⟨?_, ?_⟩, fun h => by cases h⟩
  · intro b hbm
    simp only [List.mem_map] at hbm
    obtain ⟨z, hzm, rfl⟩ := hbm
    have := hb z (List.mem_of_mem_take hzm)
    omega
  · intro h0
    have hn : 0 < n := by
      rw [List.length_map, List.length_take] at h0
      omega
    obtain ⟨g, o, spot⟩ := x
    have hc := hcell 0 (by omega)
    have hspot : spot = none := by simpa [Addr.add] using World.cell?_spot hc
    subst hspot
    refine ⟨g, o, rfl, ?_, fun j y hy => ?_⟩
    · have := World.block_lt_of_cell? w _ hc
      simpa [Addr.add] using this
    · rw [List.getElem?_map] at hy
      obtain ⟨z, hzj, rfl⟩ := Option.map_eq_some_iff.1 hy
      have hjn : j < n ∧ zs[j]? = some z := by
        rw [List.getElem?_take] at hzj
        split at hzj
        · exact ⟨by assumption, hzj⟩
        · cases hzj
      have hzb := hb z (List.mem_of_getElem? hjn.2)
      have h2 := hcell j (by omega)
      rw [Addr.add_lit] at h2
      rw [h2, List.getD_eq_getElem?_getD, hjn.2]
      simp only [Option.getD_some]
      rw [Int.toNat_of_nonneg hzb.1]
end Go.Proofs.YtlikhmhomkiadaaDoor

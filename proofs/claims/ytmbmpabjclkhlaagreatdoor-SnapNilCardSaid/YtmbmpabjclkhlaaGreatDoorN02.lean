/-
  The contracts of the disk's running, Size, Waits, Up, Power, Start, draw; and of those at a disk that nobody made.
-/
import Derived.Test.YtmbmpabjclkhlaaGreatDoorN00
import Derived.Test.YtmbmpabjclkhlaaGreatDoorN01
import Derived.Deep.WholeRow
import Derived.StillTailTactics
import Derived.Laws.Tables
import Derived.ProofKit
import Derived.OpenShut
import Derived.Deep.Slices
import Derived.Deep.Fields
import Derived.Deep.RegionHeld3
namespace Go.Proofs.YtmbmpabjclkhlaaGreatDoor
set_option maxRecDepth 100000
section
open Go Go.RowKit
def ZsAt (w : World) (A : Option Addr) (k : Nat) (zs : List Int) : Prop := zs.length = k ∧ k ≤ 1000 ∧ (0 < k → ∃ b, A = some ⟨b, 0, none⟩ ∧ ∀ (j : Nat) (z : Int), zs[j]? = some z → w.cell? ⟨b, j, none⟩ = some (.int .i64 z))
theorem ZsAt.nil_ (w : World) : ZsAt w none 0 [] := ⟨rfl, by omega, fun h => absurd h (by omega)⟩
def runE (m : DM) (zs : List Int) : Int := if m.up = false then 5 else knownE m.size zs
theorem known_of {w : World} {d g : Nat} {pv : Value} {m : DM} (h : PD w d g pv m) (A : Option Addr) (k c : Nat) (zs : List Int) (hz : ZsAt w A k zs) :
    Calls Tryz.prog 132 #[.pointer (some ⟨d, 0, none⟩), .slice A k c] w fun e w' => e = .returned (.int .i64 (knownE m.size zs)) ∧ w = w' :=
  known_yes d g m.size A k c zs w h.cells.1.1 h.cells.1.2.2.2.1 hz.1 hz.2.1 hz.2.2
set_option maxHeartbeats 800000 in
theorem running_of {w : World} {d g : Nat} {pv : Value} {m : DM} (h : PD w d g pv m) (A : Option Addr) (k c : Nat) (zs : List Int) (hz : ZsAt w A k zs) :
    Calls Tryz.prog 93 #[.pointer (some ⟨d, 0, none⟩), .slice A k c] w fun e w' => e = .returned (.int .i64 (runE m zs)) ∧ w = w' := by
  have H := Lib.hid h
  have HZ := Lib.hid hz
  obtain ⟨⟨c0, c1, _, _, _⟩, _⟩ := h.cells
  have HE : Hid (runE m zs = if m.up = false then 5 else knownE m.size zs) := Lib.hid rfl
  by_cases hu : m.up = true
  · have hs : (stOf m != 0) = false := by rw [stOf_up hu]; rfl
    have HE : Hid (runE m zs = knownE m.size zs) := Lib.hid (by rw [HE.out, if_neg (by rw [hu]; simp)])
    clear h hz hu
    generalize stOf m = st at *
    go_enter Tryz.func93, Tryz.ntmps93
    go_wp2_with fail
    refine (made_yes d _ c0).mono ?_
    rintro e w1 ⟨rfl, rfl⟩
    go_wp2_with fail
    refine (known_of H.out A k c zs HZ.out).mono ?_
    rintro e w1 ⟨rfl, rfl⟩
    go_wp2_with fail
    go_ret
    exact ⟨by rw [HE.out]; rfl, rfl⟩
  · have hu' : m.up = false := by simpa using hu
    have hs : (stOf m != 0) = true := by simpa using stOf_not hu'
    have HE : Hid (runE m zs = 5) := Lib.hid (by rw [HE.out, if_pos hu'])
    clear h hz hu hu'
    generalize stOf m = st at *
    go_enter Tryz.func93, Tryz.ntmps93
    go_wp2_with fail
    refine (made_yes d _ c0).mono ?_
    rintro e w1 ⟨rfl, rfl⟩
    go_wp2_with fail
    go_ret
    exact ⟨by rw [HE.out]; rfl, rfl⟩
set_option maxHeartbeats 800000 in
theorem size_of {w : World} {d g : Nat} {pv : Value} {m : DM} (h : PD w d g pv m) :
    Calls Tryz.prog 60 #[.pointer (some ⟨d, 0, none⟩)] w fun e w' => e = .returned (.int .i64 (m.size : Nat)) ∧ w = w' := by
  obtain ⟨⟨c0, _, _, c3, _⟩, _⟩ := h.cells
  clear h
  generalize m.size = n at *
  go_enter Tryz.func60, Tryz.ntmps60
  go_wp2_with fail
  refine (made_yes d _ c0).mono ?_
  rintro e w1 ⟨rfl, rfl⟩
  go_wp2_with fail
  go_ret
  exact ⟨rfl, rfl⟩
theorem PD.pv_form {w : World} {d g : Nat} {pv : Value} {m : DM} (h : PD w d g pv m) : ∃ A c, pv = .slice A m.waits.length c ∧ m.waits.length ≤ c ∧ c ≤ 9223372036854775807 := by
  rcases h.pen.2 with ⟨e, h0⟩ | ⟨g, cap, cur, rfl, _, _, h1, h2, _⟩
  · exact ⟨none, 0, by rw [h0]; exact e, by omega, by omega⟩
  · unfold maxLen at h2
    exact ⟨_, cap, rfl, h1, h2⟩
set_option maxHeartbeats 800000 in
theorem up_of {w : World} {d g : Nat} {pv : Value} {m : DM} (h : PD w d g pv m) :
    Calls Tryz.prog 63 #[.pointer (some ⟨d, 0, none⟩)] w fun e w' => e = .returned (.bool m.up) ∧ w = w' := by
  have hr := running_of h none 0 0 [] (ZsAt.nil_ w)
  have HR := Lib.hid hr
  have HE : Hid (decide (runE m [] = 0) = m.up) := Lib.hid (by
    unfold runE knownE
    cases m.up <;> simp)
  clear h hr
  go_enter Tryz.func63, Tryz.ntmps63
  go_wp2_with fail
  refine HR.out.mono ?_
  rintro e w1 ⟨rfl, rfl⟩
  generalize runE m [] = z at *
  go_wp2_with fail
  go_ret
  exact ⟨by rw [← HE.out]; by_cases hz : z = 0 <;> simp [hz], rfl⟩
theorem size_no (p : Option Addr) (w : World) (h : Unmade w p) : Calls Tryz.prog 60 #[.pointer p] w fun e w' => e = .returned (.int .i64 0) ∧ w = w' := by
  have H := Lib.hid h
  clear h
  go_enter Tryz.func60, Tryz.ntmps60
  go_wp2_with fail
  refine (made_no p _ H.out).mono ?_
  rintro e w1 ⟨rfl, rfl⟩
  go_wp2_with fail
  go_ret
  exact ⟨rfl, rfl⟩
end
section
open Go Go.RowKit
def HeadAt (w : World) (d : Nat) (x0 : Value) (st p : Int) (x3 x4 : Value) : Prop := w.heap[d]? = some (.cells #[x0, .int .u8 st, .int .i64 p, x3, x4] 139 (0, 0))
end
section
open Go Go.RowKit
def zCon : Array Value := (vb z64).toArray
def zWri : Array Value := (wriC (0, z64)).toArray
def zMed : Array Value := (secC z64 z64 false).toArray
theorem con_info : (Tryz.prog.info? 175).map (fun i => (i.zero, i.size)) = some (some (.agg zCon), 64) := by kernel_rfl
theorem wri_info : (Tryz.prog.info? 177).map (fun i => (i.zero, i.size)) = some (some (.agg zWri), 65) := by kernel_rfl
theorem med_info : (Tryz.prog.info? 219).map (fun i => (i.zero, i.size)) = some (some (.agg zMed), 129) := by kernel_rfl
theorem zv_wri (w : World) : (zeroValue 177).run Tryz.prog w = .ok (.agg zWri) w := (zero_of_info wri_info).1 w
theorem zv_med (w : World) : (zeroValue 219).run Tryz.prog w = .ok (.agg zMed) w := (zero_of_info med_info).1 w
theorem sz_con : (Tryz.prog.info? 175).map (·.size) = some 64 := (zero_of_info con_info).2
theorem sz_wri : (Tryz.prog.info? 177).map (·.size) = some 65 := (zero_of_info wri_info).2
theorem sz_med : (Tryz.prog.info? 219).map (·.size) = some 129 := (zero_of_info med_info).2
theorem row_con : ∃ d, Tryz.prog.underlying 175 = some d ∧ d.isRow = true := ⟨_, Tryz.underlying175, rfl⟩
theorem row_med : ∃ d, Tryz.prog.underlying 219 = some d ∧ d.isRow = true := ⟨_, Tryz.underlying219, rfl⟩
theorem st_new (w : World) (t : TypeId) (c c' : Array Value) (n : Nat) (hi : (Tryz.prog.info? t).map (·.size) = some n) (hc : c.size = n) (hc' : c'.size = n) (h1 : ∀ v ∈ c', v.oneCell' = true) :
    (storeVar t ⟨w.heap.size, 0, none⟩ (.agg c')).run Tryz.prog (w.alloc (.cells c t)) = .ok () (w.alloc (.cells c' t)) :=
  run_storeVar_new w t c c' (by rw [hi, hc']) (by rw [hc, hc']) (Array.all_eq_true_iff_forall_mem.2 h1)
theorem zMed_size : zMed.size = 129 := by simp [zMed, secC, vb_length, z64]
theorem zWri_size : zWri.size = 65 := by simp [zWri, wriC, vb_length, z64]
theorem wl_con {ops : Array Oper} {rest : List Oper} {op : Oper} {a : Act} {w : World} {Q : Exit → Act → World → Prop} (hgd : op.guard = none) (x : Operand) (ho : op.op = .load 175 x) (b o : Nat) (hx : a.eval x = .pointer (some ⟨b, o, none⟩)) (cs : List Value) (hc : w.rangeAt b o cs) (hl : cs.length = 64)
    (h : wpList Tryz.prog ops Q rest (a.put op.dst (.agg cs.toArray)) w) : wpList Tryz.prog ops Q (op :: rest) a w := by
  obtain ⟨d, h1, h2⟩ := row_con
  exact wpList_load_mid hgd _ x ho b o hx cs d hc h1 h2 (by rw [sz_con, hl]) h
theorem wl_med {ops : Array Oper} {rest : List Oper} {op : Oper} {a : Act} {w : World} {Q : Exit → Act → World → Prop} (hgd : op.guard = none) (x : Operand) (ho : op.op = .load 219 x) (b o : Nat) (hx : a.eval x = .pointer (some ⟨b, o, none⟩)) (cs : List Value) (hc : w.rangeAt b o cs) (hl : cs.length = 129)
    (h : wpList Tryz.prog ops Q rest (a.put op.dst (.agg cs.toArray)) w) : wpList Tryz.prog ops Q (op :: rest) a w := by
  obtain ⟨d, h1, h2⟩ := row_med
  exact wpList_load_mid hgd _ x ho b o hx cs d hc h1 h2 (by rw [sz_med, hl]) h
theorem ws_new {ops : Array Oper} {rest : List Oper} {op : Oper} {a : Act} {w : World} {Q : Exit → Act → World → Prop} (hgd : op.guard = none) (ty : TypeId) (x y : Operand) (ho : op.op = .store ty x y) (c c' : Array Value) (n : Nat) (hx : a.eval x = .pointer (some ⟨w.heap.size, 0, none⟩)) (hy : a.eval y = .agg c')
    (hi : (Tryz.prog.info? ty).map (·.size) = some n) (hc : c.size = n) (hc' : c'.size = n) (h1 : ∀ v ∈ c', v.oneCell' = true) (h : wpList Tryz.prog ops Q rest (a.put op.dst undef) (w.alloc (.cells c' ty))) : wpList Tryz.prog ops Q (op :: rest) a (w.alloc (.cells c ty)) :=
  wpList_plain hgd fun _ hK => by
    unfold Oper.wp execOp
    simp only [ho, hx, hy, Instr.storeAt, Instr.sureAddr, Sem.run_bind, Sem.run_pure, Result.andThen_ok, st_new w ty c c' n hi hc hc' h1]
    exact hK _ _ h
theorem ws_med {ops : Array Oper} {rest : List Oper} {op : Oper} {a : Act} {w : World} {Q : Exit → Act → World → Prop} (hgd : op.guard = none) (x y : Operand) (ho : op.op = .store 219 x y) (cs : List Value) (hx : a.eval x = .pointer (some ⟨w.heap.size, 0, none⟩)) (hy : a.eval y = .agg cs.toArray)
    (hl : cs.length = 129) (h1 : ∀ v ∈ cs, v.oneCell' = true) (h : wpList Tryz.prog ops Q rest (a.put op.dst undef) (w.alloc (.cells cs.toArray 219))) : wpList Tryz.prog ops Q (op :: rest) a (w.alloc (.cells zMed 219)) :=
  ws_new hgd _ x y ho zMed _ 129 hx hy sz_med zMed_size (by simpa using hl) (fun v hv => h1 v (by simpa using hv)) h
theorem range_new (w : World) (t : TypeId) (cs pre mid post : List Value) (h : cs = pre ++ (mid ++ post)) (o : Nat) (ho : pre.length = o) : (w.alloc (.cells cs.toArray t)).rangeAt w.heap.size o mid := fun j v hv => by
  subst h; subst ho
  have hj : j < mid.length := (List.getElem?_eq_some_iff.1 hv).1
  rw [World.cell?_alloc_new]
  rw [List.getElem?_toArray, List.getElem?_append_right (by omega), Nat.add_sub_cancel_left, List.getElem?_append_left hj]
  exact hv
theorem MedAt.range {w : World} {g : Nat} {m : DM} (h : MedAt w g m) {s : Nat} (hs : s < m.size) : w.rangeAt g (s * 129) (m.sec s) := fun j v hv => by
  obtain ⟨cur, h1, _, h3⟩ := h
  rw [cell_of_row w g (s * 129 + j) cur _ _ h1]
  exact h3 s hs j v hv
theorem DM.Ok.rest_at {m : DM} (h : m.Ok) {s : Nat} (hs : s < m.size) : Sect (m.rest.getD s []) := by
  have hs' : s < m.rest.length := hs
  rw [List.getD_eq_getElem?_getD, List.getElem?_eq_getElem hs', Option.getD_some]
  exact h.rests _ (List.getElem_mem hs')
theorem DM.Ok.meant_at {m : DM} (h : m.Ok) {s : Nat} (hs : s < m.size) : Sect (m.meant.getD s []) := by
  have hs' : s < m.meant.length := by rw [h.meant]; exact hs
  rw [List.getD_eq_getElem?_getD, List.getElem?_eq_getElem hs', Option.getD_some]
  exact h.means _ (List.getElem_mem hs')
theorem DM.Ok.sec_len {m : DM} (h : m.Ok) {s : Nat} (hs : s < m.size) : (m.sec s).length = 129 := secC_len (h.rest_at hs).1 (h.meant_at hs).1
structure New (B : Nat) (w : World) (A : Option Addr) (n : Nat) (l : List Nat) : Prop where
  len : l.length = n
  lt : ∀ b ∈ l, b < 256
  at_ : (n = 0 ∧ A = none) ∨ ∃ g t, A = some ⟨g, 0, none⟩ ∧ B ≤ g ∧ w.heap[g]? = some (.cells (vb l).toArray t (0, 0))
  le : n ≤ 64
theorem New.none_ (B : Nat) (w : World) : New B w none 0 [] := ⟨rfl, by simp, .inl ⟨rfl, rfl⟩, by omega⟩
theorem New.by {B : Nat} {w : World} {A : Option Addr} {n : Nat} {l : List Nat} (h : New B w A n l) : By w A n n l := by
  have hn : n ≤ 9223372036854775807 := by have := h.le; omega
  rcases h.at_ with ⟨rfl, rfl⟩ | ⟨g, t, rfl, _, hg⟩
  · rw [List.eq_nil_of_length_eq_zero h.len]
    exact By.nil_ w
  · exact By.of_row hg (fun j x hx => vb_at hx) h.lt h.len (Nat.le_refl _) hn
theorem New.mod {B : Nat} {w w' : World} {A : Option Addr} {n : Nat} {l : List Nat} {F : Nat → Prop} (h : New B w A n l) (k : Mod F w w') (hF : ∀ p, A = some p → ¬ F p.block) : New B w' A n l := by
  refine ⟨h.len, h.lt, ?_, h.le⟩
  rcases h.at_ with h0 | ⟨g, t, e, hb, hg⟩
  · exact .inl h0
  · exact .inr ⟨g, t, e, hb, heap_mod hg k (hF _ e)⟩
theorem New.ext {B : Nat} {w w' : World} {A : Option Addr} {n : Nat} {l : List Nat} (h : New B w A n l) (k : Ext w w') : New B w' A n l := h.mod (F := fun _ => False) (Mod.of_ext k) fun _ _ h => h
theorem New.base {B B' : Nat} {w : World} {A : Option Addr} {n : Nat} {l : List Nat} (h : New B w A n l) (hB : B' ≤ B) : New B' w A n l :=
  ⟨h.len, h.lt, h.at_.imp id fun ⟨g, t, e, hb, hg⟩ => ⟨g, t, e, Nat.le_trans hB hb, hg⟩, h.le⟩
theorem New.off {B : Nat} {w : World} {A : Option Addr} {n : Nat} {l : List Nat} {F : Nat → Prop} (h : New B w A n l) (hF : ∀ i, F i → i < B) : Off F A := fun p hp hf => by
  rcases h.at_ with ⟨_, h0⟩ | ⟨g, t, e, hb, hg⟩
  · rw [h0] at hp; cases hp
  · rw [e] at hp
    injection hp with hp
    subst hp
    have := hF _ hf
    simp at this
    omega
theorem New.alloc (w : World) (l : List Nat) (t : TypeId) (hl : Sect l) {B : Nat} (hB : B ≤ w.heap.size) : New B (w.alloc (.cells (vb l).toArray t)) (some ⟨w.heap.size, 0, none⟩) 64 l :=
  ⟨hl.1, hl.2, .inr ⟨_, t, rfl, hB, heap_alloc_new w _⟩, Nat.le_refl _⟩
theorem New.alloc2 (w : World) (o : Obj) (l : List Nat) (t : TypeId) (hl : Sect l) {B : Nat} (hB : B ≤ w.heap.size) : New B ((w.alloc o).alloc (.cells (vb l).toArray t)) (some ⟨w.heap.size + 1, 0, none⟩) 64 l := by
  rw [show w.heap.size + 1 = (w.alloc o).heap.size from by simp]
  exact New.alloc _ l t hl (by simp; omega)
set_option maxHeartbeats 800000 in
theorem told_of (l : List Nat) (w : World) :
    Calls Tryz.prog 250 #[.agg (vb l).toArray] w fun e w' => e = .returned (.slice (some ⟨w.heap.size, 0, none⟩) 64 64) ∧ w' = w.alloc (.cells (vb l).toArray 175) := by
  generalize (vb l).toArray = cs
  go_enter Tryz.func250, Tryz.ntmps250
  go_wp2
  go_ret
  exact ⟨rfl, rfl⟩
end
section
open Go Go.RowKit
theorem known_one (m : DM) (s : Int) : knownE m.size [s] = if m.has s = false then 2 else 0 := by
  unfold knownE DM.has
  by_cases h : 0 ≤ s ∧ s < (m.size : Int)
  · rw [if_pos (by simpa using h)]; simp [h]
  · rw [if_neg (by simpa using h)]
    rw [if_pos]
    simp only [Bool.and_eq_false_iff, decide_eq_false_iff_not]
    omega
theorem ZsAt.one (w : World) (s : Int) (t : TypeId) : ZsAt (w.alloc (.cells #[.int .i64 s] t)) (some ⟨w.heap.size, 0, none⟩) 1 [s] := by
  refine ⟨rfl, by omega, fun _ => ⟨_, rfl, fun j z hz => ?_⟩⟩
  rw [World.cell?_alloc_new]
  have hj : j < 1 := (List.getElem?_eq_some_iff.1 hz).1
  obtain rfl : j = 0 := by omega
  simp at hz
  subst hz
  rfl
theorem PD.ext {w w' : World} {d g : Nat} {pv : Value} {m : DM} (h : PD w d g pv m) (k : Ext w w') : PD w' d g pv m := h.mod (F := fun _ => False) (Mod.of_ext k) fun _ _ h => h
theorem sec_lost {m : DM} (h : m.Ok) {s : Nat} (hs : s < m.size) : (m.sec s)[128]? = some (.bool (m.lost.getD s false)) := by
  have h1 := (h.rest_at hs).1
  have h2 := (h.meant_at hs).1
  show (vb (m.rest.getD s []) ++ (vb (m.meant.getD s []) ++ [Value.bool (m.lost.getD s false)]))[128]? = _
  rw [List.getElem?_append_right (by rw [vb_length]; omega), List.getElem?_append_right (by rw [vb_length, vb_length]; omega), vb_length, vb_length, h1, h2]
  rfl
theorem sec_cut (m : DM) (s : Nat) : m.sec s = vb (m.rest.getD s []) ++ (vb (m.meant.getD s []) ++ [.bool (m.lost.getD s false)]) := rfl
set_option maxHeartbeats 1600000 in
theorem rest_of {w : World} {d g : Nat} {pv : Value} {m : DM} (h : PD w d g pv m) (s : Int) :
    Calls Tryz.prog 252 #[.pointer (some ⟨d, 0, none⟩), .int .i64 s] w fun e w' => ∃ A n, e = .returned (.tuple #[.slice A n n, .bool (m.at_ s).2.1, .int .i64 (m.at_ s).2.2]) ∧ New w.heap.size w' A n (m.at_ s).1 ∧ Ext w w' := by
  have hx := (Ext.refl w).alloc (.cells #[.int .i64 s] 3)
  have h1 := h.ext hx
  have hz := ZsAt.one w s 3
  have hk := known_of h1 _ 1 1 [s] hz
  rw [known_one] at hk
  have HK := Lib.hid hk
  have HX := Lib.hid hx
  have H1 := Lib.hid h1
  have HP : Hid (m.at_ s = if m.has s = false then ([], false, 2) else if m.lost.getD s.toNat false = true then ([], true, 0) else (m.rest.getD s.toNat [], false, 0)) := Lib.hid rfl
  clear h h1 hx hz hk
  by_cases hh : m.has s = false
  · have HP : Hid (m.at_ s = ([], false, 2)) := Lib.hid (by rw [HP.out, if_pos hh])
    have hk := HK.out
    rw [if_pos hh] at hk
    have HK := Lib.hid hk
    clear hk hh
    go_enter Tryz.func252, Tryz.ntmps252
    go_wp2_with fail
    refine HK.out.mono ?_
    rintro e w1 ⟨rfl, rfl⟩
    go_wp2_with fail
    go_ret3
    exact ⟨none, 0, by rw [HP.out]; rfl, by rw [HP.out]; exact New.none_ _ _, HX.out⟩
  · have hk := HK.out
    rw [if_neg hh] at hk
    have HK := Lib.hid hk
    have hhas : m.has s = true := by simpa using hh
    obtain ⟨hs0, hs1⟩ := DM.has_iff.1 hhas
    obtain ⟨k, rfl⟩ := Int.eq_ofNat_of_zero_le hs0
    have hks : k < m.size := by omega
    rw [Int.toNat_natCast] at HP
    have HP : Hid (m.at_ (k : Int) = if m.lost.getD k false = true then ([], true, 0) else (m.rest.getD k [], false, 0)) := Lib.hid (by rw [HP.out, if_neg hh])
    clear hk hh hhas
    go_enter Tryz.func252, Tryz.ntmps252
    go_wp2_with fail
    refine HK.out.mono ?_
    rintro e w1 ⟨rfl, rfl⟩
    obtain ⟨⟨c0, c1, c2, c3, c4⟩, f0, f1, f2, f3, f4⟩ := H1.out.cells
    have hr := H1.out.med.range hks
    have hlen := H1.out.ok.sec_len hks
    have hzv := zv_med
    generalize w.alloc (.cells #[.int .i64 (k : Int)] 3) = w1 at *
    have HR := Lib.hid hr
    have HLN := Lib.hid hlen
    have HONE : Hid (∀ u ∈ m.sec k, u.oneCell' = true) := Lib.hid (secC_one _ _ _)
    have HSR := Lib.hid (H1.out.ok.rest_at hks)
    clear hr hlen f0 f1 f2 f3 f4
    have h128 := sec_lost H1.out.ok hks
    have HRN : Hid ((w1.alloc (.cells (m.sec k).toArray 219)).rangeAt w1.heap.size 0 (vb (m.rest.getD k []))) := Lib.hid (range_new w1 _ _ [] _ _ (sec_cut m k) 0 rfl)
    by_cases hlost : m.lost.getD k false = true
    · rw [hlost] at h128
      have HP : Hid (m.at_ (k : Int) = ([], true, 0)) := Lib.hid (by rw [HP.out, if_pos hlost])
      clear hlost
      go_wp2_with (first
        | (refine wl_med rfl _ rfl g (k * 129) rfl (m.sec k) HR.out HLN.out ?_)
        | (refine ws_med rfl _ _ rfl (m.sec k) rfl rfl HLN.out HONE.out ?_))
      go_ret3
      exact ⟨none, 0, by rw [HP.out]; rfl, by rw [HP.out]; exact New.none_ _ _, HX.out.alloc _⟩
    · have hl : m.lost.getD k false = false := by simpa using hlost
      rw [hl] at h128
      have HP : Hid (m.at_ (k : Int) = (m.rest.getD k [], false, 0)) := Lib.hid (by rw [HP.out, if_neg hlost])
      clear hlost hl
      go_wp2_with (first
        | (refine wl_med rfl _ rfl g (k * 129) rfl (m.sec k) HR.out HLN.out ?_)
        | (refine ws_med rfl _ _ rfl (m.sec k) rfl rfl HLN.out HONE.out ?_)
        | (refine wl_con rfl _ rfl w1.heap.size 0 rfl _ HRN.out (by rw [vb_length]; exact HSR.out.1) ?_))
      refine (told_of _ _).mono ?_
      rintro e w2 ⟨rfl, rfl⟩
      go_wp2_with fail
      go_ret3
      exact ⟨_, 64, by rw [HP.out]; rfl, by rw [HP.out]; exact New.alloc2 _ _ _ _ HSR.out HX.out.size, (HX.out.alloc _).alloc _⟩
set_option maxHeartbeats 1600000 in
theorem meant_of {w : World} {d g : Nat} {pv : Value} {m : DM} (h : PD w d g pv m) (s : Int) :
    Calls Tryz.prog 253 #[.pointer (some ⟨d, 0, none⟩), .int .i64 s] w fun e w' => ∃ A n, e = .returned (.tuple #[.slice A n n, .int .i64 (m.means s).2]) ∧ New w.heap.size w' A n (m.means s).1 ∧ Ext w w' := by
  have hx := (Ext.refl w).alloc (.cells #[.int .i64 s] 3)
  have h1 := h.ext hx
  have hz := ZsAt.one w s 3
  have hk := known_of h1 _ 1 1 [s] hz
  rw [known_one] at hk
  have HK := Lib.hid hk
  have HX := Lib.hid hx
  have H1 := Lib.hid h1
  have HP : Hid (m.means s = if m.has s = false then ([], 2) else (m.meant.getD s.toNat [], 0)) := Lib.hid rfl
  clear h h1 hx hz hk
  by_cases hh : m.has s = false
  · have HP : Hid (m.means s = ([], 2)) := Lib.hid (by rw [HP.out, if_pos hh])
    have hk := HK.out
    rw [if_pos hh] at hk
    have HK := Lib.hid hk
    clear hk hh
    go_enter Tryz.func253, Tryz.ntmps253
    go_wp2_with fail
    refine HK.out.mono ?_
    rintro e w1 ⟨rfl, rfl⟩
    go_wp2_with fail
    go_ret2
    exact ⟨none, 0, by rw [HP.out]; rfl, by rw [HP.out]; exact New.none_ _ _, HX.out⟩
  · have hk := HK.out
    rw [if_neg hh] at hk
    have HK := Lib.hid hk
    have hhas : m.has s = true := by simpa using hh
    obtain ⟨hs0, hs1⟩ := DM.has_iff.1 hhas
    obtain ⟨k, rfl⟩ := Int.eq_ofNat_of_zero_le hs0
    have hks : k < m.size := by omega
    rw [Int.toNat_natCast] at HP
    have HP : Hid (m.means (k : Int) = (m.meant.getD k [], 0)) := Lib.hid (by rw [HP.out, if_neg hh])
    clear hk hh hhas
    go_enter Tryz.func253, Tryz.ntmps253
    go_wp2_with fail
    refine HK.out.mono ?_
    rintro e w1 ⟨rfl, rfl⟩
    obtain ⟨⟨c0, c1, c2, c3, c4⟩, f0, f1, f2, f3, f4⟩ := H1.out.cells
    have hr := H1.out.med.range hks
    have hm : (w.alloc (.cells #[.int .i64 (k : Int)] 3)).rangeAt g (k * 129 + 64) (vb (m.meant.getD k [])) := fun j v hv => by
      have hj : j < (vb (m.meant.getD k [])).length := (List.getElem?_eq_some_iff.1 hv).1
      have h64 := (H1.out.ok.rest_at hks).1
      rw [Nat.add_assoc]
      refine hr (64 + j) v ?_
      rw [sec_cut, List.getElem?_append_right (by rw [vb_length]; omega), vb_length, h64, Nat.add_sub_cancel_left, List.getElem?_append_left hj]
      exact hv
    generalize w.alloc (.cells #[.int .i64 (k : Int)] 3) = w1 at *
    have HR := Lib.hid hm
    have HSR := Lib.hid (H1.out.ok.meant_at hks)
    clear hr hm f0 f1 f2 f3 f4
    go_wp2_with (first
      | (refine wl_con rfl _ rfl g (k * 129 + 64) rfl _ HR.out (by rw [vb_length]; exact HSR.out.1) ?_))
    refine (told_of _ _).mono ?_
    rintro e w2 ⟨rfl, rfl⟩
    go_wp2_with fail
    go_ret2
    exact ⟨_, 64, by rw [HP.out]; rfl, by rw [HP.out]; exact New.alloc _ _ _ HSR.out (by have := HX.out.size; omega), HX.out.alloc _⟩
end
section
open Go Go.RowKit
theorem heap_setCells {g t : Nat} {fr : Nat × Nat} : ∀ (vs : List Value) (o : Nat) {w : World} {cs : Array Value}, w.heap[g]? = some (.cells cs t fr) → o + vs.length ≤ cs.size →
    ∃ cs' : Array Value, (w.setCells g o vs).heap[g]? = some (.cells cs' t fr) ∧ cs'.size = cs.size ∧ (∀ j v, vs[j]? = some v → cs'[o + j]? = some v) ∧ ∀ k, k < o ∨ o + vs.length ≤ k → cs'[k]? = cs[k]?
  | [], o, w, cs, h, _ => ⟨cs, h, rfl, fun j v hv => by simp at hv, fun _ _ => rfl⟩
  | x :: r, o, w, cs, h, hl => by
    simp only [List.length_cons] at hl
    have hrow := row_set o h x rfl
    obtain ⟨cs', h1, h2, h3, h4⟩ := heap_setCells r (o + 1) hrow (by simp; omega)
    refine ⟨cs', h1, by rw [h2]; simp, fun j v hv => ?_, fun k hk => ?_⟩
    · cases j with
      | zero =>
        simp only [List.getElem?_cons_zero, Option.some.injEq] at hv
        subst hv
        rw [Nat.add_zero, h4 o (.inl (by omega)), Array.getElem?_setIfInBounds, if_pos rfl, if_pos (by omega)]
      | succ j =>
        have := h3 j v (by simpa using hv)
        rwa [show o + (j + 1) = o + 1 + j by omega]
    · simp only [List.length_cons] at hk
      rw [h4 k (by omega), Array.getElem?_setIfInBounds]
      rw [if_neg (by omega)]
theorem MedAt.set {w : World} {g : Nat} {m m' : DM} (h : MedAt w g m) {s : Nat} (hs : s < m.size) (o : Nat) (vs : List Value) (hz : m'.size = m.size) (hin : o + vs.length ≤ 129)
    (hoth : ∀ i, i < m.size → i ≠ s → m'.sec i = m.sec i) (hlen : ∀ i, i < m.size → (m'.sec i).length = 129)
    (hsec : ∀ j v, (m'.sec s)[j]? = some v → if o ≤ j ∧ j < o + vs.length then vs[j - o]? = some v else (m.sec s)[j]? = some v) : MedAt (w.setCells g (s * 129 + o) vs) g m' := by
  obtain ⟨cur, h1, h2, h3⟩ := h
  have hle : (s + 1) * 129 ≤ m.size * 129 := Nat.mul_le_mul_right _ hs
  obtain ⟨cs', c1, c2, c3, c4⟩ := heap_setCells vs (s * 129 + o) h1 (by omega)
  refine ⟨cs', c1, by rw [c2, h2, hz], fun i hi j v hv => ?_⟩
  rw [hz] at hi
  have hj : j < 129 := by rw [← hlen i hi]; exact (List.getElem?_eq_some_iff.1 hv).1
  by_cases he : i = s
  · subst he
    have hh := hsec j v hv
    split at hh
    · rename_i hr
      have := c3 (j - o) v hh
      rwa [show i * 129 + o + (j - o) = i * 129 + j by omega] at this
    · rename_i hr
      rw [c4 _ (by omega)]
      exact h3 i hi j v hh
  · rw [hoth i hi he] at hv
    have hne : i * 129 + j < s * 129 ∨ s * 129 + 129 ≤ i * 129 + j := by
      rcases Nat.lt_or_gt_of_ne he with hlt | hgt
      · left
        have : (i + 1) * 129 ≤ s * 129 := Nat.mul_le_mul_right _ hlt
        omega
      · right
        have : (s + 1) * 129 ≤ i * 129 := Nat.mul_le_mul_right _ hgt
        omega
    rw [c4 _ (by omega)]
    exact h3 i hi j v hv
theorem PD.come {w : World} {d g : Nat} {pv : Value} {m : DM} (h : PD w d g pv m) {x : Nat × List Nat} (hx2 : Sect x.2) {w' : World} (hm : Mod (fun i => i = g) w w') (hmed : MedAt w' g (m.come x)) : PD w' d g pv (m.come x) := by
  have hz := DM.come_size m x
  refine ⟨DM.come_ok h.ok hx2, by rw [hz]; exact h.n1, h.top, ?_, hmed, ?_, h.dg, h.pd⟩
  · rw [hz]
    exact heap_mod h.head hm h.dg
  · exact own_mod h.pen hm fun i hi => (h.pd i hi).2
theorem fold_put : ∀ (cs pre mid post : List Value), mid.length = cs.length → (cs.zipIdx pre.length).foldl (fun (a : Array Value) (p : Value × Nat) => a.setIfInBounds p.2 p.1) (pre ++ (mid ++ post)).toArray = (pre ++ (cs ++ post)).toArray
  | [], pre, mid, post, h => by
    obtain rfl := List.eq_nil_of_length_eq_zero (by simpa using h)
    rfl
  | c :: cs, pre, [], post, h => by simp at h
  | c :: cs, pre, x :: mid, post, h => by
    simp only [List.zipIdx_cons, List.foldl_cons]
    have e : (pre ++ (x :: mid ++ post)).toArray.setIfInBounds pre.length c = ((pre ++ [c]) ++ (mid ++ post)).toArray := by
      simp
    rw [e]
    have := fold_put cs (pre ++ [c]) mid post (by simpa using h)
    rw [show (pre ++ [c]).length = pre.length + 1 by simp] at this
    rw [this]
    simp
theorem wri_cut (x : Nat × List Nat) : wriC x = vb x.2 ++ [.int .i64 (x.1 : Int)] := rfl
theorem wri_64 {x : Nat × List Nat} (h : x.2.length = 64) : (wriC x)[64]? = some (.int .i64 (x.1 : Int)) := by
  rw [wri_cut, List.getElem?_append_right (by rw [vb_length]; omega), vb_length, h]
  rfl
end
section
open Go Go.RowKit Go.ChangeShapes Go.WideShapes
theorem bs_of_row {w : World} {x : Addr} {n c : Nat} {zs : List Int} (hl : n ≤ c) (hm : c ≤ maxLen) (hz : zs.length = c) (hcell : ∀ i, i < zs.length → w.cell? (x.add i) = some (.int .u8 (zs.getD i 0))) (hwz : ∀ z ∈ zs, (Lit.int .u8 z).wf = true) :
    Bs w w.heap.size (some x) n c ((zs.take n).map Int.toNat) := by
  have hb : ∀ z ∈ zs, 0 ≤ z ∧ z < 256 := by
    intro z hzm
    have := bounds_u8 (hwz z hzm)
    omega
  refine ⟨by simp [hz, hl], hl, by unfold maxLen at hm; exact hm, ⟨?_, ?_⟩, fun h => by cases h⟩
  · intro b hbm
    simp only [List.mem_map] at hbm
    obtain ⟨z, hzm, rfl⟩ := hbm
    have := hb z (List.mem_of_mem_take hzm)
    omega
  · intro h0
    have hn : 0 < n := by
      rw [List.length_map, List.length_take] at h0
      omega
    obtain ⟨g, o, spot⟩ := x
    have hc := hcell 0 (by omega)
    have hspot : spot = none := by simpa [Addr.add] using World.cell?_spot hc
    subst hspot
    refine ⟨g, o, rfl, ?_, fun j y hy => ?_⟩
    · have := World.block_lt_of_cell? w _ hc
      simpa [Addr.add] using this
    · rw [List.getElem?_map] at hy
      obtain ⟨z, hzj, rfl⟩ := Option.map_eq_some_iff.1 hy
      have hjn : j < n ∧ zs[j]? = some z := by
        rw [List.getElem?_take] at hzj
        split at hzj
        · exact ⟨by assumption, hzj⟩
        · cases hzj
      have hzb := hb z (List.mem_of_getElem? hjn.2)
      have h2 := hcell j (by omega)
      rw [Addr.add_lit] at h2
      rw [h2, List.getD_eq_getElem?_getD, hjn.2]
      simp only [Option.getD_some]
      rw [Int.toNat_of_nonneg hzb.1]
end
section
open Go Go.RowKit Go.ChangeShapes Go.WideShapes Go.Deep
structure Vs (w : World) (B : Nat) (A : Option Addr) (n c : Nat) (vs : List Value) : Prop where
  len : vs.length = n
  cap : n ≤ c
  most : c ≤ 9223372036854775807
  rd : 0 < n → ∃ g o, A = some ⟨g, o, none⟩ ∧ g < B ∧ ∀ j v, vs[j]? = some v → w.cell? ⟨g, o + j, none⟩ = some v
  nil_ : A = none → c = 0
theorem Vs.below {w w' : World} {B : Nat} {A : Option Addr} {n c : Nat} {vs : List Value} (h : Vs w B A n c vs) (hb : Below B w w') : Vs w' B A n c vs :=
  ⟨h.len, h.cap, h.most, fun hn => by
    obtain ⟨g, o, e, hg, hc⟩ := h.rd hn
    exact ⟨g, o, e, hg, fun j v hv => (hb.cell (p := ⟨g, o + j, none⟩) hg).trans (hc j v hv)⟩, h.nil_⟩
theorem Vs.more {w : World} {B B' : Nat} {A : Option Addr} {n c : Nat} {vs : List Value} (h : Vs w B A n c vs) (hB : B ≤ B') : Vs w B' A n c vs :=
  ⟨h.len, h.cap, h.most, fun hn => by
    obtain ⟨g, o, e, hg, hc⟩ := h.rd hn
    exact ⟨g, o, e, by omega, hc⟩, h.nil_⟩
structure Act5 where
  kind : Nat := 0
  sec : Int := 0
  num : Int := 0
  bA : Option Addr := none
  bn : Nat := 0
  bc : Nat := 0
  bl : List Nat := []
  kA : Option Addr := none
  kn : Nat := 0
  kc : Nat := 0
  kl : List Bool := []
instance : Inhabited Act5 := ⟨{}⟩
def Act5.cells (a : Act5) : List Value := [.int .u8 (a.kind : Int), .int .i64 a.sec, .int .i64 a.num, .slice a.bA a.bn a.bc, .slice a.kA a.kn a.kc]
structure Act5.Ok (a : Act5) (w : World) (B : Nat) : Prop where
  kind : a.kind < 256
  sec : (Lit.int .i64 a.sec).wf = true
  num : (Lit.int .i64 a.num).wf = true
  bytes : Bs w B a.bA a.bn a.bc a.bl
  keep : Vs w B a.kA a.kn a.kc (a.kl.map .bool)
theorem Act5.Ok.below {a : Act5} {w w' : World} {B : Nat} (h : a.Ok w B) (hb : Below B w w') : a.Ok w' B := ⟨h.kind, h.sec, h.num, h.bytes.below hb, h.keep.below hb⟩
theorem Act5.Ok.more {a : Act5} {w : World} {B B' : Nat} (h : a.Ok w B) (hB : B ≤ B') : a.Ok w B' := ⟨h.kind, h.sec, h.num, h.bytes.more hB, h.keep.more hB⟩
structure Acts (w : World) (B : Nat) (A : Option Addr) (n c : Nat) (l : List Act5) : Prop where
  len : l.length = n
  cap : n ≤ c
  most : c ≤ 9223372036854775807
  each : ∀ a ∈ l, a.Ok w B
  rd : 0 < n → ∃ g o, A = some ⟨g, o, none⟩ ∧ g < B ∧ ∀ j a, l[j]? = some a → ∀ k v, a.cells[k]? = some v → w.cell? ⟨g, o + (j * 5 + k), none⟩ = some v
  nil_ : A = none → c = 0
theorem Acts.below {w w' : World} {B : Nat} {A : Option Addr} {n c : Nat} {l : List Act5} (h : Acts w B A n c l) (hb : Below B w w') : Acts w' B A n c l :=
  ⟨h.len, h.cap, h.most, fun a ha => (h.each a ha).below hb, fun hn => by
    obtain ⟨g, o, e, hg, hc⟩ := h.rd hn
    exact ⟨g, o, e, hg, fun j a ha k v hv => (hb.cell (p := ⟨g, o + (j * 5 + k), none⟩) hg).trans (hc j a ha k v hv)⟩, h.nil_⟩
theorem Acts.more {w : World} {B B' : Nat} {A : Option Addr} {n c : Nat} {l : List Act5} (h : Acts w B A n c l) (hB : B ≤ B') : Acts w B' A n c l :=
  ⟨h.len, h.cap, h.most, fun a ha => (h.each a ha).more hB, fun hn => by
    obtain ⟨g, o, e, hg, hc⟩ := h.rd hn
    exact ⟨g, o, e, by omega, hc⟩, h.nil_⟩
theorem Acts.at_ {w : World} {B : Nat} {A : Option Addr} {n c : Nat} {l : List Act5} (h : Acts w B A n c l) {j : Nat} (hj : j < n) : ∃ g o a, A = some ⟨g, o, none⟩ ∧ g < B ∧ l[j]? = some a ∧ a.Ok w B ∧
    w.cell? ⟨g, o + j * 5, none⟩ = some (.int .u8 (a.kind : Int)) ∧ w.cell? ⟨g, o + j * 5 + 1, none⟩ = some (.int .i64 a.sec) ∧ w.cell? ⟨g, o + j * 5 + 2, none⟩ = some (.int .i64 a.num) ∧
    w.cell? ⟨g, o + j * 5 + 3, none⟩ = some (.slice a.bA a.bn a.bc) ∧ w.cell? ⟨g, o + j * 5 + 4, none⟩ = some (.slice a.kA a.kn a.kc) := by
  obtain ⟨g, o, e, hg, hc⟩ := h.rd (by omega)
  have hj' : j < l.length := by rw [h.len]; exact hj
  have ha : l[j]? = some l[j] := List.getElem?_eq_getElem hj'
  have cell := fun (k : Nat) (v : Value) (hv : (l[j]).cells[k]? = some v) => hc j _ ha k v hv
  exact ⟨g, o, l[j], e, hg, ha, h.each _ (List.getElem_mem hj'), cell 0 _ rfl, cell 1 _ rfl, cell 2 _ rfl, cell 3 _ rfl, cell 4 _ rfl⟩
section
variable {H : Type} {enc : TypeId × Value → H} {P : Program} {w : World} {base : Nat} {spare : Nat → Bool} {held : Bool}
end
end
section
open Go Go.RowKit
theorem PD.pen_at {w : World} {d g : Nat} {pv : Value} {m : DM} (h : PD w d g pv m) {j : Nat} {x : Nat × List Nat} (hx : m.waits[j]? = some x) :
    ∃ b c, pv = .slice (some ⟨b, 0, none⟩) m.waits.length c ∧ w.rangeAt b (j * 65) (wriC x) := by
  have hj : j < m.waits.length := (List.getElem?_eq_some_iff.1 hx).1
  rcases h.pen.2 with ⟨_, h0⟩ | ⟨b, cap, cur, rfl, _, hg, h1, h2, h3, h4⟩
  · omega
  · refine ⟨b, cap, rfl, fun i v hv => ?_⟩
    rw [cell_of_row w b _ cur _ _ hg]
    have hp := penC_get (fun y hy => (h.ok.waits y hy).2.1) hx i v hv
    rw [← h4] at hp
    rw [List.getElem?_take] at hp
    split at hp
    · simpa using hp
    · cases hp
theorem Mod.then {F : Nat → Prop} {a b c : World} (h : Mod F a b) (k : Mod F b c) : Mod F a c := h.trans k fun _ hi => .inl hi
end
section
open Go Go.RowKit
theorem ZsAt.two (w : World) (a b : Int) (t : TypeId) : ZsAt (w.alloc (.cells #[.int .i64 a, .int .i64 b] t)) (some ⟨w.heap.size, 0, none⟩) 2 [a, b] := by
  refine ⟨rfl, by omega, fun _ => ⟨_, rfl, fun j z hz => ?_⟩⟩
  rw [World.cell?_alloc_new]
  have hj : j < 2 := (List.getElem?_eq_some_iff.1 hz).1
  match j, hj with
  | 0, _ => simp at hz; subst hz; rfl
  | 1, _ => simp at hz; subst hz; rfl
theorem agg_med (w : World) : (isAgg 219).run Tryz.prog w = .ok true w := by
  unfold isAgg
  rw [Sem.run_bind, run_underlying Tryz.underlying219 w]
  rfl
theorem agg_wri (w : World) : (isAgg 177).run Tryz.prog w = .ok true w := by
  unfold isAgg
  rw [Sem.run_bind, run_underlying Tryz.underlying177 w]
  rfl
theorem size_med : ∃ N, N = 129 ∧ ∀ w, (sizeOf 219).run Tryz.prog w = .ok N w := ⟨129, rfl, fun w => by
  have h := sz_med
  cases hq : Tryz.prog.info? 219 with
  | none => simp [hq] at h
  | some i => simp [hq] at h; simp [sizeOf, typeInfo, hq, h]⟩
theorem size_wri : ∃ N, N = 65 ∧ ∀ w, (sizeOf 177).run Tryz.prog w = .ok N w := ⟨65, rfl, fun w => by
  have h := sz_wri
  cases hq : Tryz.prog.info? 177 with
  | none => simp [hq] at h
  | some i => simp [hq] at h; simp [sizeOf, typeInfo, hq, h]⟩
theorem lcf (w : World) (g o N : Nat) (cs : List Value) (hl : cs.length = N) (h : w.rangeAt g o cs) : (loadCellsFrom ⟨g, o, none⟩ 0 N #[]).run Tryz.prog w = .ok cs.toArray w := by
  subst hl
  exact run_loadCells_list (P := Tryz.prog) w ⟨g, o, none⟩ cs (fun j v hv => by rw [Addr.add_mid]; exact h j v hv)
theorem scs (w : World) (t : TypeId) (c : Array Value) (cs : List Value) (hl : c.size = cs.length) (h1 : ∀ v ∈ cs, v.oneCell' = true) : (storeCells ⟨w.heap.size, 0, none⟩ cs 0).run Tryz.prog (w.alloc (.cells c t)) = .ok () (w.alloc (.cells cs.toArray t)) := by
  have h := run_storeCells_cells (P := Tryz.prog) w.heap.size 0 cs 0 (w.alloc (.cells c t)) (fun j hj => by
    rw [World.cell?_alloc_new, Array.getElem?_eq_getElem (by omega)]; rfl) (fun j hj => World.frozen?_alloc_new _ _ _ _) h1
  rw [h]
  congr 1
  have e : ((w.alloc (.cells c t)).setCells w.heap.size (0 + 0) cs) = w.alloc (.cells cs.toArray t) := by
    have key : ∀ (vs : List Value) (o : Nat) (c : Array Value), (w.alloc (.cells c t)).setCells w.heap.size o vs = w.alloc (.cells (vs.zipIdx o |>.foldl (fun a (p : Value × Nat) => a.setIfInBounds p.2 p.1) c) t) := by
      intro vs
      induction vs with
      | nil => intro o c; rfl
      | cons v r ih =>
        intro o c
        rw [World.setCells, World.setCell_alloc_new, ih]
        rfl
    rw [key]
    have := fold_put cs [] c.toList [] (by rw [Array.length_toList]; exact hl)
    simp only [List.length_nil, List.nil_append, List.append_nil] at this
    rw [show (0 + 0) = 0 from rfl]
    congr 2
  exact e
end
end Go.Proofs.YtmbmpabjclkhlaaGreatDoor

/-
  What DiskPower keeps: a disk, the writes that wait (a list of numbers of the call's own), and a row of four numbers.
-/
import Derived.Test.YtmfbeglidhejkaaKReads
import Derived.Test.YtmfbeglidhejkaaRow4
import Derived.Test.YtmfbeglidhejkaaDPower
import Derived.Deep.AppendLies
namespace Go.Proofs.Ytmfbeglidhejkaa
open Go Go.RowKit

def iv (l : List Nat) : List Value := l.map fun (x : Nat) => Value.int .i64 (x : Int)
theorem iv_length (l : List Nat) : (iv l).length = l.length := by simp [iv]
theorem iv_snoc (l : List Nat) (x : Nat) : iv (l ++ [x]) = iv l ++ [.int .i64 (x : Int)] := by simp [iv]
theorem int_info8 : (Try.prog.info? 3).map (fun i => (i.zero, i.size, i.bytes)) = some (some (.int .i64 0), 1, 8) := by kernel_rfl
structure Pwr (w0 w : World) (d : Nat) (F : Nat → Prop) (m : DM) (wl : List Nat) (f : Nat → Nat) (B L : Nat) (v : Value) : Prop where
  dk : DK w0 w d F m
  row : Row4 w L f
  off : ¬ F L
  low : w0.heap.size ≤ B
  ord : B ≤ L
  own : w.ownsRow B 3 1 v wl.length (iv wl)
  apart : ∀ g, v.ownBlock = some g → ¬ F g ∧ g ≠ L
section
variable {w0 w w' : World} {d : Nat} {F : Nat → Prop} {m : DM} {wl : List Nat} {f : Nat → Nat} {B L : Nat} {v : Value}
theorem Pwr.ext (h : Pwr w0 w d F m wl f B L v) (k : Ext w w') : Pwr w0 w' d F m wl f B L v :=
  ⟨h.dk.ext k, h.row.ext k, h.off, h.low, h.ord, own_mod (F := fun _ => False) h.own (Mod.of_ext k) (fun _ _ h => h), h.apart⟩
theorem Pwr.step {m' : DM} (h : Pwr w0 w d F m wl f B L v) (hp : PDisk w' d (grow F w w') m') (hm : Mod F w w') : Pwr w0 w' d (grow F w w') m' wl f B L v :=
  ⟨h.dk.step hp hm, h.row.mod hm h.off, fun hf => hf.elim h.off fun h2 => by have := h.row.lt; omega, h.low, h.ord, own_mod h.own hm fun i hi hf => (h.apart i hi).1 hf, fun g hg => ⟨fun hf => hf.elim (h.apart g hg).1 fun h2 => by have := (h.own.lt g hg).2; omega, (h.apart g hg).2⟩⟩
theorem Pwr.put (h : Pwr w0 w d F m wl f B L v) {q : Nat} (hq : q < 4) (x : Nat) : Pwr w0 (w.setCell ⟨L, q, none⟩ (.int .i64 (x : Int))) d F m wl (fun s => if s = q then x else f s) B L v := by
  have hm : Mod (fun i => i = L) w (w.setCell ⟨L, q, none⟩ (.int .i64 (x : Int))) := Mod.setCell (F := fun i => i = L) (Mod.refl _ _) (.inl rfl) _
  exact ⟨h.dk.mod hm (fun i hi e => h.off (e ▸ hi)) (fun i e => e ▸ Nat.le_trans h.low h.ord), h.row.set hq x, h.off, h.low, h.ord, own_mod h.own hm fun i hi e => (h.apart i hi).2 e, h.apart⟩
theorem Pwr.congr {f' : Nat → Nat} (h : Pwr w0 w d F m wl f B L v) (e : ∀ s, s < 4 → f s = f' s) : Pwr w0 w d F m wl f' B L v := ⟨h.dk, h.row.congr e, h.off, h.low, h.ord, h.own, h.apart⟩
theorem Pwr.reset (h : Pwr w0 w d F m wl f B L v) : Pwr w0 w d F m [] f B L (.slice none 0 0) := ⟨h.dk, h.row, h.off, h.low, h.ord, World.ownsRow_nil _ _ _ _, fun g hg => by cases hg⟩
theorem Pwr.grown (h : Pwr w0 w d F m wl f B L v) (o : Obj) {g cap x : Nat} (hown : w'.ownsRow B 3 1 (.slice (some ⟨g, 0, none⟩) (wl.length + 1) cap) (wl.length + 1) (iv wl ++ [.int .i64 (x : Int)])) (hg : (w.alloc o).grownBy w' v.ownBlock) (hor : v.ownBlock = some g ∨ g = (w.alloc o).heap.size) :
    Pwr w0 w' d F m (wl ++ [x]) f B L (.slice (some ⟨g, 0, none⟩) (wl.length + 1) cap) := by
  have hm : Mod (fun i => v.ownBlock = some i) w w' := ((Mod.refl _ w).alloc o).grown hg fun k hk => .inl hk
  refine ⟨h.dk.mod hm (fun i hi e => (h.apart i e).1 hi) (fun i e => by have := (h.own.lt i e).1; have := h.low; omega), h.row.mod hm (fun e => (h.apart L e).2 rfl), h.off, h.low, h.ord, ?_, fun i hi => ?_⟩
  · rw [iv_snoc, List.length_append]
    exact hown
  · injection hi with hi
    subst hi
    rcases hor with e | e
    · exact h.apart _ e
    · have hs : (w.alloc o).heap.size = w.heap.size + 1 := by simp
      refine ⟨fun hf => ?_, fun hL => ?_⟩
      · have h1 : g < w.heap.size := h.dk.disk.lt g hf
        omega
      · have h1 : g = L := hL
        have := h.row.lt
        omega
/-- A number of the list. -/
theorem Pwr.at_ (h : Pwr w0 w d F m wl f B L v) {j : Nat} (hj : j < wl.length) : ∃ g c x, v = .slice (some ⟨g, 0, none⟩) wl.length c ∧ wl[j]? = some x ∧ w.cell? ⟨g, j, none⟩ = some (.int .i64 (x : Int)) ∧ g ≠ L := by
  obtain ⟨g, cap, hv⟩ := Go.Joins.ownsRow_form h.own (by omega)
  refine ⟨g, cap, wl[j], hv, List.getElem?_eq_getElem hj, ?_, ?_⟩
  · have ho := h.own
    rw [hv] at ho
    rw [ho.cellAt j (by omega)]
    simp [iv, hj]
  · exact (h.apart g (by rw [hv]; rfl)).2
theorem Pwr.len (h : Pwr w0 w d F m wl f B L v) : ∃ A c, v = .slice A wl.length c ∧ wl.length ≤ c := by
  obtain ⟨A, c, hv, h1, _⟩ := own_form h.own
  exact ⟨A, c, hv, h1⟩
end
theorem pwr_start {w0 w : World} {d : Nat} {F : Nat → Prop} {m : DM} (h : DK w0 w d F m) :
    Pwr w0 ((w.alloc (.cells #[] 3)).alloc (.cells #[.int .i64 0, .int .i64 0, .int .i64 0, .int .i64 0] 62)) d F m [] (fun _ => 0) w.heap.size (w.heap.size + 1) (.slice (some ⟨w.heap.size, 0, none⟩) 0 0) := by
  have e1 := (Ext.refl w).alloc (.cells #[] 3)
  have e2 := (Ext.refl (w.alloc (.cells #[] 3))).alloc (.cells #[.int .i64 0, .int .i64 0, .int .i64 0, .int .i64 0] 62)
  have s1 : (w.alloc (.cells #[] 3)).heap.size = w.heap.size + 1 := by simp
  refine ⟨(h.ext e1).ext e2, ?_, fun hf => ?_, h.bel.size, Nat.le_succ _, ?_, fun g hg => ?_⟩
  · rw [← s1]
    exact heap_alloc_new (w.alloc (.cells #[] 3)) _
  · have := h.disk.lt _ hf
    omega
  · refine ⟨rfl, .inr ⟨w.heap.size, 0, #[], rfl, Nat.le_refl _, ?_, ?_⟩⟩
    · exact (heap_mod (F := fun _ => False) (heap_alloc_new w (.cells #[] 3)) (Mod.of_ext e2) fun h => h)
    · simp [iv]
  · injection hg with hg
    subst hg
    refine ⟨fun hf => ?_, fun hL => ?_⟩
    · have h1 : w.heap.size < w.heap.size := h.disk.lt _ hf
      omega
    · have h1 : w.heap.size = w.heap.size + 1 := hL
      omega
theorem end_few (m : DM) (l : List Bool) : (m.crash l).2.start.2.flush.2.waits.length ≤ 1000000 := by
  have h : ∀ m : DM, (m.flush).2.waits = [] ∨ m.up = false ∨ m.power = 0 := fun m => by
    unfold DM.flush
    split
    · exact .inr (.inl (by assumption))
    · split
      · exact .inr (.inr (by assumption))
      · exact .inl rfl
  have hd : (m.crash l).2.down = true := by
    unfold DM.crash
    split
    · assumption
    · rfl
  have hst : (m.crash l).2.start.2 = { (m.crash l).2 with down := false, dead := false, power := -1 } := by
    unfold DM.start
    rw [if_neg (by rw [hd]; simp)]
  rcases h (m.crash l).2.start.2 with e | e | e
  · rw [e]; exact Nat.zero_le _
  · rw [hst] at e; cases e
  · rw [hst] at e; cases e
theorem setPower_neg {m : DM} (h : m.up = true) : m.setPower (-1) = (2, m) := by
  unfold DM.setPower
  rw [if_neg (by rw [h]; simp), if_pos (by omega)]
theorem setPower_no {m : DM} (h : m.up = false) (n : Int) : m.setPower n = (5, m) := by
  unfold DM.setPower
  rw [if_pos h]
theorem start_no {m : DM} (h : m.down = false) : m.start = (2, m) := by
  unfold DM.start
  rw [if_pos h]
theorem lastAll_take {wl : List Nat} {j x : Nat} (h : wl[j]? = some x) (last : Nat → Nat) (s : Nat) : lastAll (wl.take (j + 1)) last s = if s = (x - 1) % 4 then x else lastAll (wl.take j) last s := by
  rw [List.take_add_one, h]
  show lastAll (wl.take j ++ [x]) last s = _
  rw [lastAll_snoc]
  by_cases e : (x - 1) % 4 = s
  · rw [if_pos e, if_pos e.symm]
  · rw [if_neg e, if_neg fun h => e h.symm]
theorem keptN_take {wl : List Nat} {j x : Nat} (h : wl[j]? = some x) (keep : List Bool) (last : Nat → Nat) (s : Nat) :
    lastAll (keptN (wl.take (j + 1)) keep) last s = if keep[j]? = some true ∧ s = (x - 1) % 4 then x else lastAll (keptN (wl.take j) keep) last s := by
  have hj : j < wl.length := (List.getElem?_eq_some_iff.1 h).1
  rw [List.take_add_one, h]
  show lastAll (keptN (wl.take j ++ [x]) keep) last s = _
  rw [keptN_snoc _ j _ _ (by simp; omega)]
  by_cases hk : keep[j]? = some true
  · rw [if_pos hk, lastAll_snoc]
    by_cases e : (x - 1) % 4 = s
    · rw [if_pos e, if_pos ⟨hk, e.symm⟩]
    · rw [if_neg e, if_neg fun h => e h.2.symm]
  · rw [if_neg hk, if_neg fun h => hk h.1]
theorem keptN_nil (wl : List Nat) : keptN wl [] = [] := by cases wl <;> rfl
theorem keptN_all : ∀ (keep : List Bool) (wl : List Nat) {j : Nat}, wl.length ≤ j ∨ keep.length ≤ j → keptN (wl.take j) keep = keptN wl keep
  | [], wl, j, _ => by rw [keptN_nil, keptN_nil]
  | b :: k, [], j, _ => by simp
  | b :: k, x :: l, 0, h => by simp at h
  | b :: k, x :: l, j + 1, h => by
    have ih := keptN_all k l (j := j) (by simpa using h)
    cases b
    · show keptN (l.take j) k = keptN l k
      exact ih
    · show x :: keptN (l.take j) k = x :: keptN l k
      rw [ih]
theorem lastAll_lt {wl : List Nat} {last : Nat → Nat} {s : Nat} (h1 : ∀ k ∈ wl, k < 256) (h2 : last s < 256) : lastAll wl last s < 256 := by
  induction wl generalizing last with
  | nil => exact h2
  | cons k l ih =>
    show lastAll l (fun s => if (k - 1) % 4 = s then k else last s) s < 256
    refine ih (fun x hx => h1 x (List.mem_cons_of_mem _ hx)) ?_
    show (if (k - 1) % 4 = s then k else last s) < 256
    split
    · exact h1 k (List.mem_cons_self ..)
    · exact h2
theorem PInv.held_lt {m : DM} {pw i : Nat} {wl : List Nat} {last : Nat → Nat} (h : PInv m pw i wl last) {s : Nat} (hs : s < 4) : last s < 256 := by
  have hl : s < m.rest.length := by have := h.four; unfold DM.size at this; omega
  have hr : m.rest.getD s [] ∈ m.rest := by
    rw [List.getD_eq_getElem?_getD, List.getElem?_eq_getElem hl]
    exact List.getElem_mem hl
  have := (h.ok.rests _ hr).2 (last s) (by rw [h.held s hs]; exact List.mem_replicate.2 ⟨by omega, rfl⟩)
  exact this
end Go.Proofs.Ytmfbeglidhejkaa

/-
  The contracts of entry's reader: pass, number, kind, text.
-/
import Derived.Test.YtmbmpabjclkhlaaGreatDoorQ00
import Derived.Test.YtmbmpabjclkhlaaGreatDoorQ01
import Derived.Test.YtmbmpabjclkhlaaGreatDoorQ10
import Derived.Deep.DeepCutAuto
namespace Go.Proofs.YtmbmpabjclkhlaaGreatDoor
set_option maxRecDepth 100000
section
open Go Go.RowKit
structure RdS (w : World) (g : Nat) (A : Option Addr) (n c : Nat) (l : List Nat) (a : Nat) (sh : Bool) : Prop where
  row : w.heap[g]? = some (.cells #[.slice A n c, .int .i64 (a : Int), .bool sh] 342 (0, 0))
  by_ : By w A n c l
  off : 0 < n → ∀ p, A = some p → p.block ≠ g
  le : a ≤ l.length
  most : n ≤ 9000000000000000000
  laid : Laid w
section
variable {w w' : World} {g n c a : Nat} {A : Option Addr} {l : List Nat} {sh : Bool}
theorem RdS.lt (h : RdS w g A n c l a sh) : g < w.heap.size := (Array.getElem?_eq_some_iff.1 h.row).1
theorem by_mod {G : Nat → Prop} (h : By w A n c l) (k : Mod G w w') (ho : 0 < n → ∀ p, A = some p → ¬ G p.block) : By w' A n c l := by
  by_cases h0 : 0 < n
  · exact By.mod h k fun p hp => ho h0 p hp
  · refine ⟨h.len, h.cap, h.most, ⟨h.rd.1, fun hn => ?_⟩, Bs.nil_ h⟩
    have := h.len
    omega
theorem laid_mod {G : Nat → Prop} (h : Laid w) (k : Mod G w w') (hg : ¬ G 4) : Laid w' := by
  have hlt : 4 < w.heap.size := World.block_lt_of_cell? w _ h.1
  have hb := k.block _ hlt hg
  unfold Laid at h ⊢
  obtain ⟨h0, h1, h2, h3, h4, h5, h6⟩ := h
  exact ⟨(World.cell?_of_block (a := ⟨_, _, none⟩) hb).trans h0, (World.cell?_of_block (a := ⟨_, _, none⟩) hb).trans h1, (World.cell?_of_block (a := ⟨_, _, none⟩) hb).trans h2, (World.cell?_of_block (a := ⟨_, _, none⟩) hb).trans h3, (World.cell?_of_block (a := ⟨_, _, none⟩) hb).trans h4, (World.cell?_of_block (a := ⟨_, _, none⟩) hb).trans h5, (World.cell?_of_block (a := ⟨_, _, none⟩) hb).trans h6⟩
theorem RdS.glob (h : RdS w g A n c l a sh) : 4 ≠ g := by
  intro e
  have h1 := h.laid.1
  have h2 := cell_of_row w g 0 _ _ _ h.row
  rw [← e] at h2
  have h3 := h1.symm.trans h2
  simp at h3
theorem RdS.step {a' : Nat} {sh' : Bool} (h : RdS w g A n c l a sh) (k : Mod (fun i => i = g) w w') (hr : w'.heap[g]? = some (.cells #[.slice A n c, .int .i64 (a' : Int), .bool sh'] 342 (0, 0))) (hle : a' ≤ l.length) : RdS w' g A n c l a' sh' :=
  ⟨hr, by_mod h.by_ k h.off, h.off, hle, h.most, laid_mod h.laid k h.glob⟩
theorem RdS.ext (h : RdS w g A n c l a sh) (k : Ext w w') : RdS w' g A n c l a sh :=
  ⟨(k.block g h.lt).trans h.row, h.by_.ext k, h.off, h.le, h.most, h.laid.ext k⟩
end
theorem rdr_cells {w : World} {g : Nat} {x0 x1 x2 : Value} {t : TypeId} (h : w.heap[g]? = some (.cells #[x0, x1, x2] t (0, 0))) :
    (w.cell? ⟨g, 0, none⟩ = some x0 ∧ w.cell? ⟨g, 1, none⟩ = some x1 ∧ w.cell? ⟨g, 2, none⟩ = some x2) ∧ (w.frozen? ⟨g, 1, none⟩ = false ∧ w.frozen? ⟨g, 2, none⟩ = false) :=
  ⟨⟨cell_of_row w g 0 _ _ _ h, cell_of_row w g 1 _ _ _ h, cell_of_row w g 2 _ _ _ h⟩, ⟨frozen_of_row w g 1 _ _ h, frozen_of_row w g 2 _ _ h⟩⟩
theorem rdr_set {w : World} {g i : Nat} {cs : Array Value} {t : TypeId} (h : w.heap[g]? = some (.cells cs t (0, 0))) (v : Value) : (w.setCell ⟨g, i, none⟩ v).heap[g]? = some (.cells (cs.setIfInBounds i v) t (0, 0)) := by
  rw [setCell_eq_setRow w g i _ _ _ v h]
  exact setRow_heap w g _ (cs.setIfInBounds i v) _ _ h
theorem mod_set {w : World} (g i : Nat) (v : Value) : Mod (fun k => k = g) w (w.setCell ⟨g, i, none⟩ v) := Mod.setCell (F := fun k => k = g) (Mod.refl (fun k => k = g) w) (p := ⟨g, i, none⟩) (.inl rfl) v
theorem mod_drew {g : Nat} {w w2 : World} (hm : Mod (fun i => i = g) w.drew w2) : Mod (fun i => i = g) w w2 :=
  Mod.trans (F := fun i => i = g) (Mod.drew (F := fun i => i = g) (Mod.refl (fun i => i = g) w)) hm fun _ hi => .inl hi
set_option maxHeartbeats 400000 in
theorem pass_yes {w : World} {g n c a : Nat} {A : Option Addr} {l : List Nat} {sh : Bool} (h : RdS w g A n c l a sh) (b : Nat) (hb : b ≤ l.length) :
    Calls Tryz.prog 286 #[.pointer (some ⟨g, 0, none⟩), .int .i64 (b : Int), .int .i64 0] w fun e w' => e = .returned (.tuple #[]) ∧ RdS w' g A n c l b sh ∧ Mod (fun i => i = g) w w' := by
  obtain ⟨⟨c0, c1, c2⟩, f1, f2⟩ := rdr_cells h.row
  have HR := Lib.hid (h.step (mod_set g 1 (.int .i64 (b : Int))) (rdr_set h.row _) hb)
  have HM := Lib.hid (mod_set (w := w) g 1 (.int .i64 (b : Int)))
  clear h hb
  go_enter Tryz.func286, Tryz.ntmps286
  go_wp2_with fail
  go_end0
  exact ⟨rfl, HR.out, HM.out⟩
set_option maxHeartbeats 400000 in
theorem pass_no {w : World} {g n c a : Nat} {A : Option Addr} {l : List Nat} {sh : Bool} (h : RdS w g A n c l a sh) (b : Int) :
    Calls Tryz.prog 286 #[.pointer (some ⟨g, 0, none⟩), .int .i64 b, .int .i64 10] w fun e w' => e = .returned (.tuple #[]) ∧ RdS w' g A n c l a true ∧ Mod (fun i => i = g) w w' := by
  obtain ⟨⟨c0, c1, c2⟩, f1, f2⟩ := rdr_cells h.row
  have HR := Lib.hid (h.step (mod_set g 2 (.bool true)) (rdr_set h.row _) h.le)
  have HM := Lib.hid (mod_set (w := w) g 2 (.bool true))
  clear h
  go_enter Tryz.func286, Tryz.ntmps286
  go_wp2_with fail
  refine bodyPost_ret (results_none rfl _ _ _) rfl ⟨rfl, HR.out, HM.out⟩
theorem number_of {w : World} {g n c a : Nat} {A : Option Addr} {l : List Nat} {sh : Bool} (h : RdS w g A n c l a sh) (d : Nat) (hd : wOk d = true) :
    Calls Tryz.prog 258 #[.pointer (some ⟨g, 0, none⟩), .int .i64 (d : Int)] w fun e w' => e = .returned (.int .i64 ((nmS l a d).1 : Int)) ∧ RdS w' g A n c l (nmS l a d).2.1 (sh || (nmS l a d).2.2) ∧ Mod (fun i => i = g) w w' := by
  have hg := getS_nm hd h.le
  have HR := Lib.hid h
  have hle := nmS_le (w := d) h.le
  obtain ⟨⟨c0, c1, _⟩, _⟩ := rdr_cells h.row
  clear h
  cases hb : (nmS l a d).2.2 with
  | true =>
    rw [if_pos hb] at hg
    have HN := Lib.hid (nmS_bad hb)
    have HG := Lib.hid hg
    clear hg hb hle
    go_enter Tryz.func258, Tryz.ntmps258
    go_wp2_with fail
    have HR := Lib.hid (HR.out.ext (Ext.refl w).drew)
    have hc := oget_any A l n c _ a d _ HR.out.laid HR.out.by_.len HR.out.by_.rd HR.out.most
    rw [HG.out] at hc
    have HC := Lib.hid hc
    clear hc
    go_region_held3 (fun w' => w'.cell? ⟨g, 0, none⟩ = some (.slice A n c) ∧ w'.cell? ⟨g, 1, none⟩ = some (.int .i64 (a : Int)))
      (first | with_reducible exact ⟨c0, c1⟩ | go_keep)
      (first
        | (go_at_call 237; ((with_reducible refine HC.out.mono ?_); rintro r w' ⟨rfl, rfl⟩)))
    go_wp2_with fail
    refine (pass_no HR.out _).mono ?_
    rintro r w2 ⟨rfl, hr, hm⟩
    have HR := Lib.hid hr
    have HM := Lib.hid (mod_drew hm)
    clear hr hm c0 c1
    go_wp2_with fail
    go_ret
    rw [HN.out]
    exact ⟨rfl, by rw [Bool.or_true]; exact HR.out, HM.out⟩
  | false =>
    rw [if_neg (by rw [hb]; simp)] at hg
    have HG := Lib.hid hg
    have HL := Lib.hid hle
    rw [Bool.or_false]
    clear hg hb hle
    generalize (nmS l a d).1 = x at *
    generalize (nmS l a d).2.1 = y at *
    go_enter Tryz.func258, Tryz.ntmps258
    go_wp2_with fail
    have HR := Lib.hid (HR.out.ext (Ext.refl w).drew)
    have hc := oget_any A l n c _ a d _ HR.out.laid HR.out.by_.len HR.out.by_.rd HR.out.most
    rw [HG.out] at hc
    have HC := Lib.hid hc
    clear hc
    go_region_held3 (fun w' => w'.cell? ⟨g, 0, none⟩ = some (.slice A n c) ∧ w'.cell? ⟨g, 1, none⟩ = some (.int .i64 (a : Int)))
      (first | with_reducible exact ⟨c0, c1⟩ | go_keep)
      (first
        | (go_at_call 237; ((with_reducible refine HC.out.mono ?_); rintro r w' ⟨rfl, rfl⟩)))
    go_wp2_with fail
    refine (pass_yes HR.out y HL.out).mono ?_
    rintro r w2 ⟨rfl, hr, hm⟩
    have HR := Lib.hid hr
    have HM := Lib.hid (mod_drew hm)
    clear hr hm c0 c1
    go_wp2_with fail
    go_ret
    exact ⟨rfl, HR.out, HM.out⟩
theorem kind_of {w : World} {g n c a : Nat} {A : Option Addr} {l : List Nat} {sh : Bool} (h : RdS w g A n c l a sh) :
    Calls Tryz.prog 287 #[.pointer (some ⟨g, 0, none⟩)] w fun e w' => e = .returned (.int .u8 ((nmS l a 1).1 : Int)) ∧ RdS w' g A n c l (nmS l a 1).2.1 (sh || (nmS l a 1).2.2) ∧ Mod (fun i => i = g) w w' := by
  have HC := Lib.hid (number_of h 1 rfl)
  have hlt := nmS_lt h.by_.rd.lt a 1
  clear h
  generalize nmS l a 1 = q at *
  obtain ⟨x, y, z⟩ := q
  dsimp only at *
  go_enter Tryz.func287, Tryz.ntmps287
  go_wp2_with fail
  refine HC.out.mono ?_
  rintro r w2 ⟨rfl, hr, hm⟩
  have HR := Lib.hid hr
  have HM := Lib.hid hm
  clear hr hm
  go_wp2_with fail
  go_ret
  exact ⟨rfl, HR.out, HM.out⟩
theorem text_of {w : World} {g n c a : Nat} {A : Option Addr} {l : List Nat} {sh : Bool} (h : RdS w g A n c l a sh) :
    Calls Tryz.prog 296 #[.pointer (some ⟨g, 0, none⟩)] w fun e w' => e = .returned (.string (txS l a).1) ∧ RdS w' g A n c l (txS l a).2.1 (sh || (txS l a).2.2) ∧ Mod (fun i => i = g) w w' := by
  obtain ⟨hs, hg⟩ := txS_read h.le
  have HS := Lib.hid hs
  have HR := Lib.hid h
  have hle := txS_le h.le
  obtain ⟨⟨c0, c1, _⟩, _⟩ := rdr_cells h.row
  have hy := txS_bad (l := l) (a := a)
  clear h hs
  obtain ⟨rd, hrd⟩ : ∃ rd, readS l (a : Int) = rd := ⟨_, rfl⟩
  rw [hrd] at HS hg
  obtain ⟨rs, rn, re⟩ := rd
  have HD := Lib.hid hrd
  clear hrd
  generalize txS l a = q at *
  obtain ⟨x, y, z⟩ := q
  dsimp only at *
  rcases hg with ⟨rfl, rfl, rfl⟩ | ⟨rfl, rfl, rfl⟩
  · obtain ⟨rfl, hya⟩ : x = ByteArray.empty ∧ y = a := by
      have := (hy rfl).1
      injection this with e1 e2
      injection e2 with e2 _
      exact ⟨e1, e2⟩
    obtain rfl := hya.symm
    clear hy hle
    go_enter Tryz.func296, Tryz.ntmps296
    go_wp2_with fail
    have HR := Lib.hid (HR.out.ext (Ext.refl w).drew)
    have hc := oread_any A l n c _ a _ HR.out.laid HR.out.by_.len HR.out.by_.cap HR.out.by_.rd HR.out.most
    rw [HD.out] at hc
    dsimp only at hc
    rw [HS.out] at hc
    have HC := Lib.hid hc
    clear hc
    go_region_held3 (fun w' => w'.cell? ⟨g, 0, none⟩ = some (.slice A n c) ∧ w'.cell? ⟨g, 1, none⟩ = some (.int .i64 (a : Int)))
      (first | with_reducible exact ⟨c0, c1⟩ | go_keep)
      (first
        | (go_at_call 301; ((with_reducible refine HC.out.mono ?_); rintro r w' ⟨rfl, rfl⟩)))
    go_wp2_with fail
    refine (pass_no HR.out _).mono ?_
    rintro r w2 ⟨rfl, hr, hm⟩
    have HR := Lib.hid hr
    have HM := Lib.hid (mod_drew hm)
    clear hr hm c0 c1
    go_wp2_with fail
    go_ret
    exact ⟨rfl, by rw [Bool.or_true]; exact HR.out, HM.out⟩
  · have HL := Lib.hid hle
    clear hy hle
    go_enter Tryz.func296, Tryz.ntmps296
    go_wp2_with fail
    have HR := Lib.hid (HR.out.ext (Ext.refl w).drew)
    have hc := oread_any A l n c _ a _ HR.out.laid HR.out.by_.len HR.out.by_.cap HR.out.by_.rd HR.out.most
    rw [HD.out] at hc
    dsimp only at hc
    rw [HS.out] at hc
    have HC := Lib.hid hc
    clear hc
    go_region_held3 (fun w' => w'.cell? ⟨g, 0, none⟩ = some (.slice A n c) ∧ w'.cell? ⟨g, 1, none⟩ = some (.int .i64 (a : Int)))
      (first | with_reducible exact ⟨c0, c1⟩ | go_keep)
      (first
        | (go_at_call 301; ((with_reducible refine HC.out.mono ?_); rintro r w' ⟨rfl, rfl⟩)))
    go_wp2_with fail
    refine (pass_yes HR.out _ HL.out).mono ?_
    rintro r w2 ⟨rfl, hr, hm⟩
    have HR := Lib.hid hr
    have HM := Lib.hid (mod_drew hm)
    clear hr hm c0 c1
    go_wp2_with fail
    go_ret
    exact ⟨rfl, by rw [Bool.or_false]; exact HR.out, HM.out⟩
end
section
open Go Go.RowKit
structure RdB (B g : Nat) (A : Option Addr) (n : Nat) : Prop where
  g : g < B
  a : 0 < n → ∀ p, A = some p → p.block < B
  o : 4 < B
theorem RdS.base {w : World} {g n c a : Nat} {A : Option Addr} {l : List Nat} {sh : Bool} (h : RdS w g A n c l a sh) : RdB w.heap.size g A n :=
  ⟨h.lt, fun hn p hp => by
    obtain ⟨g', o, e, hg, _⟩ := h.by_.rd.2 (by rw [h.by_.len]; exact hn)
    rw [hp] at e
    injection e with e
    rw [e]
    exact hg, World.block_lt_of_cell? w _ h.laid.1⟩
theorem RdS.other {w w' : World} {g n c a B : Nat} {A : Option Addr} {l : List Nat} {sh : Bool} {G : Nat → Prop} (h : RdS w g A n c l a sh) (hb : RdB B g A n) (k : Mod G w w') (hG : ∀ i, G i → B ≤ i) : RdS w' g A n c l a sh :=
  ⟨heap_mod h.row k fun hg => absurd (hG _ hg) (Nat.not_le.2 hb.g), by_mod h.by_ k fun hn p hp hg => absurd (hG _ hg) (Nat.not_le.2 (hb.a hn p hp)), h.off, h.le, h.most, laid_mod h.laid k fun hg => absurd (hG _ hg) (Nat.not_le.2 hb.o)⟩
theorem four_free {w : World} {g : Nat} {x0 x1 x2 x3 : Value} {t : TypeId} (h : w.heap[g]? = some (.cells #[x0, x1, x2, x3] t (0, 0))) :
    (w.cell? ⟨g, 0, none⟩ = some x0 ∧ w.cell? ⟨g, 1, none⟩ = some x1 ∧ w.cell? ⟨g, 2, none⟩ = some x2 ∧ w.cell? ⟨g, 3, none⟩ = some x3) ∧
    (w.frozen? ⟨g, 0, none⟩ = false ∧ w.frozen? ⟨g, 1, none⟩ = false ∧ w.frozen? ⟨g, 2, none⟩ = false ∧ w.frozen? ⟨g, 3, none⟩ = false) :=
  ⟨four_cells h, frozen_of_row w g 0 _ _ h, frozen_of_row w g 1 _ _ h, frozen_of_row w g 2 _ _ h, frozen_of_row w g 3 _ _ h⟩
structure OpS (w : World) (g : Nat) (A : Option Addr) (n c : Nat) (l : List Nat) (g2 g3 : Nat) (x0 x1 x2 x3 : Value) (a : Nat) (sh : Bool) (w' : World) : Prop where
  rd : RdS w' g A n c l a sh
  base : RdB w.heap.size g A n
  res : w'.heap[g2]? = some (.cells #[.int .u8 0, .string ⟨#[]⟩, .string ⟨#[]⟩, .string ⟨#[]⟩] 40 (0, 0))
  own : w'.heap[g3]? = some (.cells #[x0, x1, x2, x3] 333 (0, 0))
  ge : w.heap.size ≤ g2 ∧ w.heap.size ≤ g3 ∧ g2 ≠ g3
  mod : Mod (fun i => i = g) w w'
section
variable {w w' w2 : World} {g n c a g2 g3 : Nat} {A : Option Addr} {l : List Nat} {x0 x1 x2 x3 : Value} {sh : Bool}
theorem OpS.ext (h : OpS w g A n c l g2 g3 x0 x1 x2 x3 a sh w') (k : Ext w' w2) : OpS w g A n c l g2 g3 x0 x1 x2 x3 a sh w2 :=
  ⟨h.rd.ext k, h.base, heap_extE h.res k, heap_extE h.own k, h.ge, h.mod.ext k⟩
theorem OpS.step {a' : Nat} {sh' : Bool} (h : OpS w g A n c l g2 g3 x0 x1 x2 x3 a sh w') (k : Mod (fun i => i = g) w' w2) (hr : RdS w2 g A n c l a' sh') : OpS w g A n c l g2 g3 x0 x1 x2 x3 a' sh' w2 :=
  ⟨hr, h.base, heap_mod h.res k (by have := h.base.g; have := h.ge; omega), heap_mod h.own k (by have := h.base.g; have := h.ge; omega), h.ge, Mod.trans (F := fun i => i = g) h.mod k fun _ hi => .inl hi⟩
theorem OpS.put1 (h : OpS w g A n c l g2 g3 x0 x1 x2 x3 a sh w') (v : Value) : OpS w g A n c l g2 g3 x0 v x2 x3 a sh (w'.setCell ⟨g3, 1, none⟩ v) :=
  ⟨h.rd.other h.base (mod_set g3 1 v) fun i hi => by subst hi; exact h.ge.2.1, h.base, heap_mod h.res (mod_set g3 1 v) h.ge.2.2, rdr_set h.own v, h.ge, Mod.setCell (F := fun i => i = g) h.mod (.inr h.ge.2.1) v⟩
theorem OpS.put2 (h : OpS w g A n c l g2 g3 x0 x1 x2 x3 a sh w') (v : Value) : OpS w g A n c l g2 g3 x0 x1 v x3 a sh (w'.setCell ⟨g3, 2, none⟩ v) :=
  ⟨h.rd.other h.base (mod_set g3 2 v) fun i hi => by subst hi; exact h.ge.2.1, h.base, heap_mod h.res (mod_set g3 2 v) h.ge.2.2, rdr_set h.own v, h.ge, Mod.setCell (F := fun i => i = g) h.mod (.inr h.ge.2.1) v⟩
theorem OpS.put3 (h : OpS w g A n c l g2 g3 x0 x1 x2 x3 a sh w') (v : Value) : OpS w g A n c l g2 g3 x0 x1 x2 v a sh (w'.setCell ⟨g3, 3, none⟩ v) :=
  ⟨h.rd.other h.base (mod_set g3 3 v) fun i hi => by subst hi; exact h.ge.2.1, h.base, heap_mod h.res (mod_set g3 3 v) h.ge.2.2, rdr_set h.own v, h.ge, Mod.setCell (F := fun i => i = g) h.mod (.inr h.ge.2.1) v⟩
end
set_option maxHeartbeats 1000000 in
theorem operation_of {w : World} {g n c a : Nat} {A : Option Addr} {l : List Nat} {sh : Bool} (h : RdS w g A n c l a sh) :
    Calls Tryz.prog 288 #[.pointer (some ⟨g, 0, none⟩)] w fun e w' => e = .returned (.agg #[.int .u8 ((nmS l a 1).1 : Int), .string (txS l (opA l a)).1, .string (txS l (opB l a)).1, .string (txS l (opC l a)).1]) ∧ RdS w' g A n c l (opD l a) (sh || opBad l a) ∧ Mod (fun i => i = g) w w' := by
  have HBB := Lib.hid h.base
  have hx := (Ext.refl w).alloc (.cells #[.int .u8 0, .string ⟨#[]⟩, .string ⟨#[]⟩, .string ⟨#[]⟩] 40)
  have HR := Lib.hid (h.ext hx)
  have HQ := Lib.hid (heap_alloc_new w (.cells #[.int .u8 0, .string ⟨#[]⟩, .string ⟨#[]⟩, .string ⟨#[]⟩] 40))
  have hlt := nmS_lt h.by_.rd.lt a 1
  have t0 := texts_at0
  have t1 := texts_at1
  have t2 := texts_at2
  clear h
  go_enter Tryz.func288, Tryz.ntmps288
  go_wp2_with fail
  refine (kind_of HR.out).mono ?_
  rintro e w1 ⟨rfl, hr, hm⟩
  have HR := Lib.hid hr
  have HM := Lib.hid hm
  clear hr hm
  go_wp2_with fail
  have HS : Hid (OpS w g A n c l w.heap.size w1.heap.size (.int .u8 ((nmS l a 1).1 : Int)) (.string ⟨#[]⟩) (.string ⟨#[]⟩) (.string ⟨#[]⟩) (opA l a) (sh || (nmS l a 1).2.2) (w1.alloc (.cells #[.int .u8 ((nmS l a 1).1 : Int), .string ⟨#[]⟩, .string ⟨#[]⟩, .string ⟨#[]⟩] 333))) := Lib.hid (by
    have hx1 := (Ext.refl w1).alloc (.cells #[.int .u8 ((nmS l a 1).1 : Int), .string ⟨#[]⟩, .string ⟨#[]⟩, .string ⟨#[]⟩] 333)
    have hgl := HBB.out.g
    have hs1 := HM.out.size
    rw [World.size_alloc] at hs1
    refine ⟨HR.out.ext hx1, HBB.out, heap_extE (heap_mod HQ.out HM.out (by omega)) hx1, heap_alloc_new w1 _, ⟨Nat.le_refl _, by omega, by omega⟩, ?_⟩
    exact Mod.ext (F := fun i => i = g) (Mod.trans (F := fun i => i = g) (Mod.alloc (F := fun i => i = g) (Mod.refl (fun i => i = g) w) _) HM.out fun _ hi => .inl hi) hx1)
  obtain ⟨k0, hk0⟩ : ∃ k0, (nmS l a 1).1 = k0 := ⟨_, rfl⟩
  rw [hk0] at HS
  rw [hk0]
  generalize hg3 : w1.heap.size = g3 at *
  generalize hg2 : w.heap.size = g2 at *
  have hs1 : Hid (opA l a = opA l a) := Lib.hid rfl
  have HK := Lib.hid hk0
  clear HR HM HQ HBB hlt hx hk0 hs1
  refine (texts_any _).mono ?_
  rintro e w2 ⟨rfl, hx⟩
  have HS := Lib.hid (HS.out.ext hx)
  clear hx
  go_wp2_with fail
  refine wp_loop_rounds 4 ?_
  rw [rounds_succ]
  go_wp2_with fail
  refine (key_of _ _).mono ?_
  rintro e v3 ⟨rfl, rfl⟩
  go_wp2_with fail
  refine (text_of HS.out.rd).mono ?_
  rintro e v4 ⟨rfl, hr, hm⟩
  have hs := HS.out.step hm (show RdS _ g A n c l (opB l a) _ from hr)
  obtain ⟨⟨_, c1, c2, c3⟩, _, f1, f2, f3⟩ := four_free hs.own
  have HS := Lib.hid (hs.put1 (.string (txS l (opA l a)).1))
  clear hs hr hm
  go_wp2_with fail
  rw [rounds_succ]
  go_wp2_with fail
  refine (old_of _ _).mono ?_
  rintro e v5 ⟨rfl, rfl⟩
  go_wp2_with fail
  refine (text_of HS.out.rd).mono ?_
  rintro e v6 ⟨rfl, hr, hm⟩
  have hs := HS.out.step hm (show RdS _ g A n c l (opC l a) _ from hr)
  obtain ⟨⟨_, c1, c2, c3⟩, _, f1, f2, f3⟩ := four_free hs.own
  have HS := Lib.hid (hs.put2 (.string (txS l (opB l a)).1))
  clear hs hr hm
  go_wp2_with fail
  rw [rounds_succ]
  go_wp2_with fail
  refine (val_of _ _).mono ?_
  rintro e v7 ⟨rfl, rfl⟩
  go_wp2_with fail
  refine (text_of HS.out.rd).mono ?_
  rintro e v8 ⟨rfl, hr, hm⟩
  have hs := HS.out.step hm (show RdS _ g A n c l (opD l a) _ from hr)
  obtain ⟨⟨_, c1, c2, c3⟩, _, f1, f2, f3⟩ := four_free hs.own
  have HS := Lib.hid (hs.put3 (.string (txS l (opC l a)).1))
  clear hs hr hm
  go_wp2_with fail
  generalize (v8.setCell ⟨g3, 3, none⟩ (.string (txS l (opC l a)).1)) = W at *
  obtain ⟨c0, c1, c2, c3⟩ := four_cells HS.out.own
  obtain ⟨d0, d1, d2, d3⟩ := four_cells HS.out.res
  obtain ⟨_, e0, e1, e2, e3⟩ := four_free HS.out.res
  rw [rounds_succ]
  go_wp2_with fail
  refine bodyPost_ret (v := .agg #[.int .u8 (k0 : Int), .string (txS l (opA l a)).1, .string (txS l (opB l a)).1, .string (txS l (opC l a)).1]) ?_ rfl ⟨by rw [HK.out], ?_, ?_⟩
  · simp [results, Tryz.results288, go_sem, d0, d1, d2, d3]
  · rw [show (sh || opBad l a) = (sh || (nmS l a 1).2.2 || (txS l (opA l a)).2.2 || (txS l (opB l a)).2.2 || (txS l (opC l a)).2.2) from by unfold opBad; simp only [Bool.or_assoc]]
    refine HS.out.rd.other (G := fun i => i = g2) HS.out.base ?_ (fun i hi => by subst hi; exact HS.out.ge.1)
    exact ((((Mod.refl (fun i => i = g2) W).setCell (p := ⟨g2, 0, none⟩) (.inl rfl) _).setCell (p := ⟨g2, 1, none⟩) (.inl rfl) _).setCell (p := ⟨g2, 2, none⟩) (.inl rfl) _).setCell (p := ⟨g2, 3, none⟩) (.inl rfl) _
  · exact (((HS.out.mod.setCell (p := ⟨g2, 0, none⟩) (.inr HS.out.ge.1) _).setCell (p := ⟨g2, 1, none⟩) (.inr HS.out.ge.1) _).setCell (p := ⟨g2, 2, none⟩) (.inr HS.out.ge.1) _).setCell (p := ⟨g2, 3, none⟩) (.inr HS.out.ge.1) _
end
section
open Go Go.RowKit
theorem seven_cells {w : World} {g : Nat} {x0 x1 x2 x3 x4 x5 x6 : Value} {t : TypeId} (h : w.heap[g]? = some (.cells #[x0, x1, x2, x3, x4, x5, x6] t (0, 0))) :
    w.cell? ⟨g, 0, none⟩ = some x0 ∧ w.cell? ⟨g, 1, none⟩ = some x1 ∧ w.cell? ⟨g, 2, none⟩ = some x2 ∧ w.cell? ⟨g, 3, none⟩ = some x3 ∧ w.cell? ⟨g, 4, none⟩ = some x4 ∧ w.cell? ⟨g, 5, none⟩ = some x5 ∧ w.cell? ⟨g, 6, none⟩ = some x6 :=
  ⟨cell_of_row w g 0 _ _ _ h, cell_of_row w g 1 _ _ _ h, cell_of_row w g 2 _ _ _ h, cell_of_row w g 3 _ _ _ h, cell_of_row w g 4 _ _ _ h, cell_of_row w g 5 _ _ _ h, cell_of_row w g 6 _ _ _ h⟩
theorem seven_free {w : World} {g : Nat} {x0 x1 x2 x3 x4 x5 x6 : Value} {t : TypeId} (h : w.heap[g]? = some (.cells #[x0, x1, x2, x3, x4, x5, x6] t (0, 0))) :
    w.frozen? ⟨g, 0, none⟩ = false ∧ w.frozen? ⟨g, 1, none⟩ = false ∧ w.frozen? ⟨g, 2, none⟩ = false ∧ w.frozen? ⟨g, 3, none⟩ = false ∧ w.frozen? ⟨g, 4, none⟩ = false ∧ w.frozen? ⟨g, 5, none⟩ = false ∧ w.frozen? ⟨g, 6, none⟩ = false :=
  ⟨frozen_of_row w g 0 _ _ h, frozen_of_row w g 1 _ _ h, frozen_of_row w g 2 _ _ h, frozen_of_row w g 3 _ _ h, frozen_of_row w g 4 _ _ h, frozen_of_row w g 5 _ _ h, frozen_of_row w g 6 _ _ h⟩
def set7 (w : World) (g : Nat) (x0 x1 x2 x3 x4 x5 x6 : Value) : World :=
  ((((((w.setCell ⟨g, 0, none⟩ x0).setCell ⟨g, 1, none⟩ x1).setCell ⟨g, 2, none⟩ x2).setCell ⟨g, 3, none⟩ x3).setCell ⟨g, 4, none⟩ x4).setCell ⟨g, 5, none⟩ x5).setCell ⟨g, 6, none⟩ x6
theorem mod_set7 {F : Nat → Prop} {a w : World} (h : Mod F a w) {g : Nat} (hg : F g ∨ a.heap.size ≤ g) (x0 x1 x2 x3 x4 x5 x6 : Value) : Mod F a (set7 w g x0 x1 x2 x3 x4 x5 x6) :=
  ((((((h.setCell (p := ⟨g, 0, none⟩) hg _).setCell (p := ⟨g, 1, none⟩) hg _).setCell (p := ⟨g, 2, none⟩) hg _).setCell (p := ⟨g, 3, none⟩) hg _).setCell (p := ⟨g, 4, none⟩) hg _).setCell (p := ⟨g, 5, none⟩) hg _).setCell (p := ⟨g, 6, none⟩) hg _
theorem mod_set7_own (w : World) (g : Nat) (x0 x1 x2 x3 x4 x5 x6 : Value) : Mod (fun i => i = g) w (set7 w g x0 x1 x2 x3 x4 x5 x6) := mod_set7 (F := fun i => i = g) (Mod.refl (fun i => i = g) w) (.inl rfl) _ _ _ _ _ _ _
theorem ext_set7 {a w : World} (h : Ext a w) {g : Nat} (hg : a.heap.size ≤ g) (x0 x1 x2 x3 x4 x5 x6 : Value) : Ext a (set7 w g x0 x1 x2 x3 x4 x5 x6) :=
  ((((((h.setCell (p := ⟨g, 0, none⟩) hg _).setCell (p := ⟨g, 1, none⟩) hg _).setCell (p := ⟨g, 2, none⟩) hg _).setCell (p := ⟨g, 3, none⟩) hg _).setCell (p := ⟨g, 4, none⟩) hg _).setCell (p := ⟨g, 5, none⟩) hg _).setCell (p := ⟨g, 6, none⟩) hg _
structure EnW (w : World) (g : Nat) (A : Option Addr) (n c : Nat) (l : List Nat) (g2 g3 : Nat) (cs : Array Value) (a : Nat) (sh : Bool) (w' : World) : Prop where
  rd : RdS w' g A n c l a sh
  base : RdB w.heap.size g A n
  res : w'.heap[g2]? = some (.cells #[.int .u8 0, .int .i64 0, .int .i64 0, .int .u8 0, .string ⟨#[]⟩, .string ⟨#[]⟩, .string ⟨#[]⟩] 42 (0, 0))
  own : w'.heap[g3]? = some (.cells cs 42 (0, 0))
  ge : w.heap.size ≤ g2 ∧ w.heap.size ≤ g3 ∧ g2 ≠ g3
  mod : Mod (fun i => i = g) w w'
section
variable {w w' w2 : World} {g n c a g2 g3 : Nat} {A : Option Addr} {l : List Nat} {cs : Array Value} {sh : Bool}
theorem EnW.step {a' : Nat} {sh' : Bool} (h : EnW w g A n c l g2 g3 cs a sh w') (k : Mod (fun i => i = g) w' w2) (hr : RdS w2 g A n c l a' sh') : EnW w g A n c l g2 g3 cs a' sh' w2 :=
  ⟨hr, h.base, heap_mod h.res k (by have := h.base.g; have := h.ge; omega), heap_mod h.own k (by have := h.base.g; have := h.ge; omega), h.ge, Mod.trans (F := fun i => i = g) h.mod k fun _ hi => .inl hi⟩
theorem EnW.put (h : EnW w g A n c l g2 g3 cs a sh w') (i : Nat) (v : Value) {ds : Array Value} (hd : ds = cs.setIfInBounds i v) : EnW w g A n c l g2 g3 ds a sh (w'.setCell ⟨g3, i, none⟩ v) :=
  ⟨h.rd.other h.base (mod_set g3 i v) fun i hi => by subst hi; exact h.ge.2.1, h.base, heap_mod h.res (mod_set g3 i v) h.ge.2.2, hd ▸ rdr_set h.own v, h.ge, Mod.setCell (F := fun i => i = g) h.mod (.inr h.ge.2.1) v⟩
theorem EnW.fin (h : EnW w g A n c l g2 g3 cs a sh w') (x0 x1 x2 x3 x4 x5 x6 : Value) : RdS (set7 w' g2 x0 x1 x2 x3 x4 x5 x6) g A n c l a sh ∧ Mod (fun i => i = g) w (set7 w' g2 x0 x1 x2 x3 x4 x5 x6) :=
  ⟨h.rd.other (G := fun i => i = g2) h.base (mod_set7_own _ _ _ _ _ _ _ _ _) (fun i hi => by subst hi; exact h.ge.1), mod_set7 (F := fun i => i = g) h.mod (.inr h.ge.1) _ _ _ _ _ _ _⟩
end
theorem enS_no {l : List Nat} {a : Nat} (h : (nmS l a 1).1 ≠ 2) : enS l a = ({ k := (nmS l a 1).1 }, enA l a, (nmS l a 1).2.2) := by unfold enS; rw [if_neg h]
theorem enS_yes {l : List Nat} {a : Nat} (h : (nmS l a 1).1 = 2) : enS l a = ({ k := 2, cl := ((nmS l (enA l a) 1).1 : Nat), sq := ((nmS l (enB l a) 6).1 : Nat), ok := (nmS l (enC l a) 1).1, key := (txS l (opA l (enC l a))).1, old := (txS l (opB l (enC l a))).1, val := (txS l (opC l (enC l a))).1 },
      opD l (enC l a), (nmS l a 1).2.2 || (nmS l (enA l a) 1).2.2 || (nmS l (enB l a) 6).2.2 || opBad l (enC l a)) := by unfold enS; rw [if_pos h]
set_option maxHeartbeats 1000000 in
theorem entry_of {w : World} {g n c a : Nat} {A : Option Addr} {l : List Nat} {sh : Bool} (h : RdS w g A n c l a sh) :
    Calls Tryz.prog 259 #[.pointer (some ⟨g, 0, none⟩)] w fun e w' => e = .returned (.agg #[.int .u8 ((enS l a).1.k : Int), .int .i64 (enS l a).1.cl, .int .i64 (enS l a).1.sq, .int .u8 ((enS l a).1.ok : Int), .string (enS l a).1.key, .string (enS l a).1.old, .string (enS l a).1.val]) ∧ RdS w' g A n c l (enS l a).2.1 (sh || (enS l a).2.2) ∧ Mod (fun i => i = g) w w' := by
  have HBB := Lib.hid h.base
  have hx := (Ext.refl w).alloc (.cells #[.int .u8 0, .int .i64 0, .int .i64 0, .int .u8 0, .string ⟨#[]⟩, .string ⟨#[]⟩, .string ⟨#[]⟩] 42)
  have HR := Lib.hid (h.ext hx)
  have HQ := Lib.hid (heap_alloc_new w (.cells #[.int .u8 0, .int .i64 0, .int .i64 0, .int .u8 0, .string ⟨#[]⟩, .string ⟨#[]⟩, .string ⟨#[]⟩] 42))
  clear h
  have mk : ∀ (k : Nat) (w1 : World) (a' : Nat) (sh' : Bool), RdS w1 g A n c l a' sh' → Mod (fun i => i = g) (w.alloc (.cells #[.int .u8 0, .int .i64 0, .int .i64 0, .int .u8 0, .string ⟨#[]⟩, .string ⟨#[]⟩, .string ⟨#[]⟩] 42)) w1 →
      EnW w g A n c l w.heap.size w1.heap.size #[.int .u8 (k : Int), .int .i64 0, .int .i64 0, .int .u8 0, .string ⟨#[]⟩, .string ⟨#[]⟩, .string ⟨#[]⟩] a' sh' (w1.alloc (.cells #[.int .u8 (k : Int), .int .i64 0, .int .i64 0, .int .u8 0, .string ⟨#[]⟩, .string ⟨#[]⟩, .string ⟨#[]⟩] 42)) := by
    intro k w1 a' sh' hr hm
    have hx1 := (Ext.refl w1).alloc (.cells #[.int .u8 (k : Int), .int .i64 0, .int .i64 0, .int .u8 0, .string ⟨#[]⟩, .string ⟨#[]⟩, .string ⟨#[]⟩] 42)
    have hgl := HBB.out.g
    have hs1 := hm.size
    rw [World.size_alloc] at hs1
    refine ⟨hr.ext hx1, HBB.out, heap_extE (heap_mod HQ.out hm (by omega)) hx1, heap_alloc_new w1 _, ⟨Nat.le_refl _, by omega, by omega⟩, ?_⟩
    exact Mod.ext (F := fun i => i = g) (Mod.trans (F := fun i => i = g) (Mod.alloc (F := fun i => i = g) (Mod.refl (fun i => i = g) w) _) hm fun _ hi => .inl hi) hx1
  have MK := Lib.hid mk
  clear mk HQ hx
  have kk := kind_of HR.out
  by_cases h2 : (nmS l a 1).1 = 2
  · have HS2 := Lib.hid (enS_yes h2)
    rw [h2] at kk
    have KK := Lib.hid kk
    clear kk h2
    go_enter Tryz.func259, Tryz.ntmps259
    go_wp2_with fail
    refine KK.out.mono ?_
    rintro e w1 ⟨rfl, hr, hm⟩
    have hs := MK.out 2 w1 _ _ hr hm
    have hs : EnW _ _ _ _ _ _ _ _ _ (enA l a) _ _ := hs
    clear KK MK HBB HR hr hm
    have HS := Lib.hid hs
    obtain ⟨c0, c1, c2, c3, c4, c5, c6⟩ := seven_cells hs.own
    obtain ⟨f0, f1, f2, f3, f4, f5, f6⟩ := seven_free hs.own
    clear hs
    go_wp2_with fail
    generalize w.heap.size = g2 at *
    refine (number_of HS.out.rd 1 rfl).mono ?_
    rintro e w2 ⟨rfl, hr, hm⟩
    have hs := HS.out.step hm (show RdS _ g A n c l (enB l a) _ from hr)
    generalize w1.heap.size = g3 at *
    clear c0 c1 c2 c3 c4 c5 c6 f0 f1 f2 f3 f4 f5 f6
    obtain ⟨_, c1, _⟩ := seven_cells hs.own
    obtain ⟨_, f1, _⟩ := seven_free hs.own
    have HS := Lib.hid (hs.put 1 (.int .i64 ((nmS l (enA l a) 1).1 : Int)) (ds := #[.int .u8 2, .int .i64 ((nmS l (enA l a) 1).1 : Int), .int .i64 0, .int .u8 0, .string ⟨#[]⟩, .string ⟨#[]⟩, .string ⟨#[]⟩]) rfl)
    clear hs hr hm
    go_wp2_with fail
    clear c1 f1
    generalize (w2.setCell ⟨g3, 1, none⟩ (.int .i64 ((nmS l (enA l a) 1).1 : Int))) = w3 at *
    refine (number_of HS.out.rd 6 rfl).mono ?_
    rintro e w4 ⟨rfl, hr, hm⟩
    have hs := HS.out.step hm (show RdS _ g A n c l (enC l a) _ from hr)
    obtain ⟨_, _, c2, _⟩ := seven_cells hs.own
    obtain ⟨_, _, f2, _⟩ := seven_free hs.own
    have HS := Lib.hid (hs.put 2 (.int .i64 ((nmS l (enB l a) 6).1 : Int)) (ds := #[.int .u8 2, .int .i64 ((nmS l (enA l a) 1).1 : Int), .int .i64 ((nmS l (enB l a) 6).1 : Int), .int .u8 0, .string ⟨#[]⟩, .string ⟨#[]⟩, .string ⟨#[]⟩]) rfl)
    clear hs hr hm
    go_wp2_with fail
    clear c2 f2
    generalize (w4.setCell ⟨g3, 2, none⟩ (.int .i64 ((nmS l (enB l a) 6).1 : Int))) = w5 at *
    refine (operation_of HS.out.rd).mono ?_
    rintro e w6 ⟨rfl, hr, hm⟩
    have hs := HS.out.step hm hr
    obtain ⟨_, _, _, c3, c4, c5, c6⟩ := seven_cells hs.own
    obtain ⟨_, _, _, f3, f4, f5, f6⟩ := seven_free hs.own
    have hs := ((((hs.put 3 (.int .u8 ((nmS l (enC l a) 1).1 : Int)) (ds := #[.int .u8 2, .int .i64 ((nmS l (enA l a) 1).1 : Int), .int .i64 ((nmS l (enB l a) 6).1 : Int), .int .u8 ((nmS l (enC l a) 1).1 : Int), .string ⟨#[]⟩, .string ⟨#[]⟩, .string ⟨#[]⟩]) rfl).put 4 (.string (txS l (opA l (enC l a))).1)
      (ds := #[.int .u8 2, .int .i64 ((nmS l (enA l a) 1).1 : Int), .int .i64 ((nmS l (enB l a) 6).1 : Int), .int .u8 ((nmS l (enC l a) 1).1 : Int), .string (txS l (opA l (enC l a))).1, .string ⟨#[]⟩, .string ⟨#[]⟩]) rfl).put 5 (.string (txS l (opB l (enC l a))).1)
      (ds := #[.int .u8 2, .int .i64 ((nmS l (enA l a) 1).1 : Int), .int .i64 ((nmS l (enB l a) 6).1 : Int), .int .u8 ((nmS l (enC l a) 1).1 : Int), .string (txS l (opA l (enC l a))).1, .string (txS l (opB l (enC l a))).1, .string ⟨#[]⟩]) rfl).put 6 (.string (txS l (opC l (enC l a))).1)
      (ds := #[.int .u8 2, .int .i64 ((nmS l (enA l a) 1).1 : Int), .int .i64 ((nmS l (enB l a) 6).1 : Int), .int .u8 ((nmS l (enC l a) 1).1 : Int), .string (txS l (opA l (enC l a))).1, .string (txS l (opB l (enC l a))).1, .string (txS l (opC l (enC l a))).1]) rfl)
    have HS := Lib.hid hs
    clear hs hr hm
    go_upto_region 6 with (fail)
    clear c3 c4 c5 c6 f3 f4 f5 f6
    generalize ((((w6.setCell ⟨g3, 3, none⟩ (.int .u8 ((nmS l (enC l a) 1).1 : Int))).setCell ⟨g3, 4, none⟩ (.string (txS l (opA l (enC l a))).1)).setCell ⟨g3, 5, none⟩ (.string (txS l (opB l (enC l a))).1)).setCell ⟨g3, 6, none⟩ (.string (txS l (opC l (enC l a))).1)) = W at *
    obtain ⟨c0, c1, c2, c3, c4, c5, c6⟩ := seven_cells HS.out.own
    obtain ⟨d0, d1, d2, d3, d4, d5, d6⟩ := seven_cells HS.out.res
    obtain ⟨e0, e1, e2, e3, e4, e5, e6⟩ := seven_free HS.out.res
    go_wp2_with fail
    obtain ⟨hA, hB⟩ := HS.out.fin (.int .u8 2) (.int .i64 ((nmS l (enA l a) 1).1 : Int)) (.int .i64 ((nmS l (enB l a) 6).1 : Int)) (.int .u8 ((nmS l (enC l a) 1).1 : Int)) (.string (txS l (opA l (enC l a))).1) (.string (txS l (opB l (enC l a))).1) (.string (txS l (opC l (enC l a))).1)
    refine bodyPost_ret (v := .agg #[.int .u8 2, .int .i64 ((nmS l (enA l a) 1).1 : Int), .int .i64 ((nmS l (enB l a) 6).1 : Int), .int .u8 ((nmS l (enC l a) 1).1 : Int), .string (txS l (opA l (enC l a))).1, .string (txS l (opB l (enC l a))).1, .string (txS l (opC l (enC l a))).1]) ?_ rfl ⟨by rw [HS2.out]; rfl, ?_, hB⟩
    · simp [results, Tryz.results259, go_sem, d0, d1, d2, d3, d4, d5, d6]
    · rw [HS2.out]
      dsimp only
      rw [show (sh || ((nmS l a 1).2.2 || (nmS l (enA l a) 1).2.2 || (nmS l (enB l a) 6).2.2 || opBad l (enC l a))) = (sh || (nmS l a 1).2.2 || (nmS l (enA l a) 1).2.2 || (nmS l (enB l a) 6).2.2 || opBad l (enC l a)) from by simp only [Bool.or_assoc]]
      exact hA
  · have HS2 := Lib.hid (enS_no h2)
    have HN : Hid ((((nmS l a 1).1 : Int) == 2) = false) := Lib.hid (by rw [beq_eq_false_iff_ne]; omega)
    clear h2
    generalize hk : (nmS l a 1).1 = k at *
    have KK := Lib.hid kk
    have hn := HN.out
    clear kk
    go_enter Tryz.func259, Tryz.ntmps259
    go_wp2_with fail
    refine KK.out.mono ?_
    rintro e w1 ⟨rfl, hr, hm⟩
    have hs := MK.out k w1 _ _ hr hm
    have hs : EnW _ _ _ _ _ _ _ _ _ (enA l a) _ _ := hs
    clear KK MK HBB HR hr hm
    have HS := Lib.hid hs
    obtain ⟨d0, d1, d2, d3, d4, d5, d6⟩ := seven_cells hs.res
    obtain ⟨e0, e1, e2, e3, e4, e5, e6⟩ := seven_free hs.res
    clear hs
    go_wp2_with fail
    obtain ⟨hA, hB⟩ := HS.out.fin (.int .u8 (k : Int)) (.int .i64 0) (.int .i64 0) (.int .u8 0) (.string ⟨#[]⟩) (.string ⟨#[]⟩) (.string ⟨#[]⟩)
    refine bodyPost_ret (v := .agg #[.int .u8 (k : Int), .int .i64 0, .int .i64 0, .int .u8 0, .string ⟨#[]⟩, .string ⟨#[]⟩, .string ⟨#[]⟩]) ?_ rfl ⟨by rw [HS2.out]; rfl, ?_, hB⟩
    · simp [results, Tryz.results259, go_sem, d0, d1, d2, d3, d4, d5, d6]
    · rw [HS2.out]
      exact hA
end
end Go.Proofs.YtmbmpabjclkhlaaGreatDoor

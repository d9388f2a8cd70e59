/-
  The contracts of entry's reader: pass, number, kind, text.
-/
import Derived.Test.YtoapjgkfggggmaaDoorESmall
import Derived.Test.YtoapjgkfggggmaaDoorAwake
import Derived.Test.YtoapjgkfggggmaaDoorKMod
namespace Go.Proofs.YtoapjgkfggggmaaDoor
open Go Go.RowKit

/-- A reader's cells. -/
abbrev rrow (A : Option Addr) (n c : Nat) (a : Int) (sh : Bool) : Obj := .cells #[.slice A n c, .int .i64 a, .bool sh] 74 (0, 0)
/-- A reader at a place of bytes. -/
structure RdS (w : World) (g : Nat) (A : Option Addr) (n c : Nat) (l : List Nat) (a : Nat) (sh : Bool) : Prop where
  row : w.heap[g]? = some (.cells #[.slice A n c, .int .i64 (a : Int), .bool sh] 74 (0, 0))
  by_ : By w A n c l
  off : 0 < n → ∀ p, A = some p → p.block ≠ g
  le : a ≤ l.length
  most : n ≤ 9000000000000000000
  laid : Laid w
section
variable {w w' : World} {g n c a : Nat} {A : Option Addr} {l : List Nat} {sh : Bool}
theorem RdS.lt (h : RdS w g A n c l a sh) : g < w.heap.size := (Array.getElem?_eq_some_iff.1 h.row).1
theorem by_mod {G : Nat → Prop} (h : By w A n c l) (k : Mod G w w') (ho : 0 < n → ∀ p, A = some p → ¬ G p.block) : By w' A n c l := by
  by_cases h0 : 0 < n
  · exact By.mod h k fun p hp => ho h0 p hp
  · refine ⟨h.len, h.cap, h.most, ⟨h.rd.1, fun hn => ?_⟩, Bs.nil_ h⟩
    have := h.len
    omega
theorem laid_mod {G : Nat → Prop} (h : Laid w) (k : Mod G w w') (hg : ¬ G 0) : Laid w' := by
  have hlt : 0 < w.heap.size := World.block_lt_of_cell? w _ h.1
  have hb := k.block _ hlt hg
  unfold Laid at h ⊢
  obtain ⟨h0, h1, h2, h3, h4, h5, h6⟩ := h
  exact ⟨(World.cell?_of_block (a := ⟨_, _, none⟩) hb).trans h0, (World.cell?_of_block (a := ⟨_, _, none⟩) hb).trans h1, (World.cell?_of_block (a := ⟨_, _, none⟩) hb).trans h2, (World.cell?_of_block (a := ⟨_, _, none⟩) hb).trans h3, (World.cell?_of_block (a := ⟨_, _, none⟩) hb).trans h4, (World.cell?_of_block (a := ⟨_, _, none⟩) hb).trans h5, (World.cell?_of_block (a := ⟨_, _, none⟩) hb).trans h6⟩
theorem RdS.glob (h : RdS w g A n c l a sh) : 0 ≠ g := by
  intro e
  have h1 := h.laid.1
  have h2 := cell_of_row w g 0 _ _ _ h.row
  rw [← e] at h2
  have h3 := h1.symm.trans h2
  simp at h3
/-- The reader goes on: its block alone is written. -/
theorem RdS.step {a' : Nat} {sh' : Bool} (h : RdS w g A n c l a sh) (k : Mod (fun i => i = g) w w') (hr : w'.heap[g]? = some (.cells #[.slice A n c, .int .i64 (a' : Int), .bool sh'] 74 (0, 0))) (hle : a' ≤ l.length) : RdS w' g A n c l a' sh' :=
  ⟨hr, by_mod h.by_ k h.off, h.off, hle, h.most, laid_mod h.laid k h.glob⟩
theorem RdS.ext (h : RdS w g A n c l a sh) (k : Ext w w') : RdS w' g A n c l a sh :=
  ⟨(k.block g h.lt).trans h.row, h.by_.ext k, h.off, h.le, h.most, h.laid.ext k⟩
theorem RdS.mod {G : Nat → Prop} (h : RdS w g A n c l a sh) (k : Mod G w w') (hG : ∀ i, G i → w.heap.size ≤ i) : RdS w' g A n c l a sh := h.ext (k.to_ext hG)
end
theorem rdr_cells {w : World} {g : Nat} {x0 x1 x2 : Value} {t : TypeId} (h : w.heap[g]? = some (.cells #[x0, x1, x2] t (0, 0))) :
    (w.cell? ⟨g, 0, none⟩ = some x0 ∧ w.cell? ⟨g, 1, none⟩ = some x1 ∧ w.cell? ⟨g, 2, none⟩ = some x2) ∧ (w.frozen? ⟨g, 1, none⟩ = false ∧ w.frozen? ⟨g, 2, none⟩ = false) :=
  ⟨⟨cell_of_row w g 0 _ _ _ h, cell_of_row w g 1 _ _ _ h, cell_of_row w g 2 _ _ _ h⟩, ⟨frozen_of_row w g 1 _ _ h, frozen_of_row w g 2 _ _ h⟩⟩
theorem rdr_set {w : World} {g i : Nat} {cs : Array Value} {t : TypeId} (h : w.heap[g]? = some (.cells cs t (0, 0))) (v : Value) : (w.setCell ⟨g, i, none⟩ v).heap[g]? = some (.cells (cs.setIfInBounds i v) t (0, 0)) := by
  rw [setCell_eq_setRow w g i _ _ _ v h]
  exact setRow_heap w g _ (cs.setIfInBounds i v) _ _ h
theorem mod_set {w : World} (g i : Nat) (v : Value) : Mod (fun k => k = g) w (w.setCell ⟨g, i, none⟩ v) := Mod.setCell (F := fun k => k = g) (Mod.refl (fun k => k = g) w) (p := ⟨g, i, none⟩) (.inl rfl) v
theorem mod_drew {g : Nat} {w w2 : World} (hm : Mod (fun i => i = g) w.drew w2) : Mod (fun i => i = g) w w2 :=
  Mod.trans (F := fun i => i = g) (Mod.drew (F := fun i => i = g) (Mod.refl (fun i => i = g) w)) hm fun _ hi => .inl hi
set_option maxHeartbeats 400000 in
theorem pass_yes {w : World} {g n c a : Nat} {A : Option Addr} {l : List Nat} {sh : Bool} (h : RdS w g A n c l a sh) (b : Nat) (hb : b ≤ l.length) :
    Calls Tryd.prog 50 #[.pointer (some ⟨g, 0, none⟩), .int .i64 (b : Int), .int .i64 0] w fun e w' => e = .returned (.tuple #[]) ∧ RdS w' g A n c l b sh ∧ Mod (fun i => i = g) w w' := by
  obtain ⟨⟨c0, c1, c2⟩, f1, f2⟩ := rdr_cells h.row
  have HR := Lib.hid (h.step (mod_set g 1 (.int .i64 (b : Int))) (rdr_set h.row _) hb)
  have HM := Lib.hid (mod_set (w := w) g 1 (.int .i64 (b : Int)))
  clear h hb
  go_enter Tryd.func50, Tryd.ntmps50
  go_wp2_with fail
  go_end0
  exact ⟨rfl, HR.out, HM.out⟩
set_option maxHeartbeats 400000 in
theorem pass_no {w : World} {g n c a : Nat} {A : Option Addr} {l : List Nat} {sh : Bool} (h : RdS w g A n c l a sh) (b : Int) :
    Calls Tryd.prog 50 #[.pointer (some ⟨g, 0, none⟩), .int .i64 b, .int .i64 10] w fun e w' => e = .returned (.tuple #[]) ∧ RdS w' g A n c l a true ∧ Mod (fun i => i = g) w w' := by
  obtain ⟨⟨c0, c1, c2⟩, f1, f2⟩ := rdr_cells h.row
  have HR := Lib.hid (h.step (mod_set g 2 (.bool true)) (rdr_set h.row _) h.le)
  have HM := Lib.hid (mod_set (w := w) g 2 (.bool true))
  clear h
  go_enter Tryd.func50, Tryd.ntmps50
  go_wp2_with fail
  refine bodyPost_ret (results_none rfl _ _ _) rfl ⟨rfl, HR.out, HM.out⟩
theorem number_of {w : World} {g n c a : Nat} {A : Option Addr} {l : List Nat} {sh : Bool} (h : RdS w g A n c l a sh) (d : Nat) (hd : wOk d = true) :
    Calls Tryd.prog 38 #[.pointer (some ⟨g, 0, none⟩), .int .i64 (d : Int)] w fun e w' => e = .returned (.int .i64 ((nmS l a d).1 : Int)) ∧ RdS w' g A n c l (nmS l a d).2.1 (sh || (nmS l a d).2.2) ∧ Mod (fun i => i = g) w w' := by
  have hg := getS_nm hd h.le
  have HR := Lib.hid h
  have hle := nmS_le (w := d) h.le
  obtain ⟨⟨c0, c1, _⟩, _⟩ := rdr_cells h.row
  clear h
  cases hb : (nmS l a d).2.2 with
  | true =>
    rw [if_pos hb] at hg
    have HN := Lib.hid (nmS_bad hb)
    have HG := Lib.hid hg
    clear hg hb hle
    go_enter Tryd.func38, Tryd.ntmps38
    go_wp2_with fail
    have HR := Lib.hid (HR.out.ext (Ext.refl w).drew)
    have hc := oget_any A l n c _ a d _ HR.out.laid HR.out.by_.len HR.out.by_.rd HR.out.most
    rw [HG.out] at hc
    have HC := Lib.hid hc
    clear hc
    go_region_held3 (fun w' => w'.cell? ⟨g, 0, none⟩ = some (.slice A n c) ∧ w'.cell? ⟨g, 1, none⟩ = some (.int .i64 (a : Int)))
      (first | with_reducible exact ⟨c0, c1⟩ | go_keep)
      (first
        | (go_at_call 49; ((with_reducible refine HC.out.mono ?_); rintro r w' ⟨rfl, rfl⟩)))
    go_wp2_with fail
    refine (pass_no HR.out _).mono ?_
    rintro r w2 ⟨rfl, hr, hm⟩
    have HR := Lib.hid hr
    have HM := Lib.hid (mod_drew hm)
    clear hr hm c0 c1
    go_wp2_with fail
    go_ret
    rw [HN.out]
    exact ⟨rfl, by rw [Bool.or_true]; exact HR.out, HM.out⟩
  | false =>
    rw [if_neg (by rw [hb]; simp)] at hg
    have HG := Lib.hid hg
    have HL := Lib.hid hle
    rw [Bool.or_false]
    clear hg hb hle
    generalize (nmS l a d).1 = x at *
    generalize (nmS l a d).2.1 = y at *
    go_enter Tryd.func38, Tryd.ntmps38
    go_wp2_with fail
    have HR := Lib.hid (HR.out.ext (Ext.refl w).drew)
    have hc := oget_any A l n c _ a d _ HR.out.laid HR.out.by_.len HR.out.by_.rd HR.out.most
    rw [HG.out] at hc
    have HC := Lib.hid hc
    clear hc
    go_region_held3 (fun w' => w'.cell? ⟨g, 0, none⟩ = some (.slice A n c) ∧ w'.cell? ⟨g, 1, none⟩ = some (.int .i64 (a : Int)))
      (first | with_reducible exact ⟨c0, c1⟩ | go_keep)
      (first
        | (go_at_call 49; ((with_reducible refine HC.out.mono ?_); rintro r w' ⟨rfl, rfl⟩)))
    go_wp2_with fail
    refine (pass_yes HR.out y HL.out).mono ?_
    rintro r w2 ⟨rfl, hr, hm⟩
    have HR := Lib.hid hr
    have HM := Lib.hid (mod_drew hm)
    clear hr hm c0 c1
    go_wp2_with fail
    go_ret
    exact ⟨rfl, HR.out, HM.out⟩
theorem kind_of {w : World} {g n c a : Nat} {A : Option Addr} {l : List Nat} {sh : Bool} (h : RdS w g A n c l a sh) :
    Calls Tryd.prog 46 #[.pointer (some ⟨g, 0, none⟩)] w fun e w' => e = .returned (.int .u8 ((nmS l a 1).1 : Int)) ∧ RdS w' g A n c l (nmS l a 1).2.1 (sh || (nmS l a 1).2.2) ∧ Mod (fun i => i = g) w w' := by
  have HC := Lib.hid (number_of h 1 rfl)
  have hlt := nmS_lt h.by_.rd.lt a 1
  clear h
  generalize nmS l a 1 = q at *
  obtain ⟨x, y, z⟩ := q
  dsimp only at *
  go_enter Tryd.func46, Tryd.ntmps46
  go_wp2_with fail
  refine HC.out.mono ?_
  rintro r w2 ⟨rfl, hr, hm⟩
  have HR := Lib.hid hr
  have HM := Lib.hid hm
  clear hr hm
  go_wp2_with fail
  go_ret
  exact ⟨rfl, HR.out, HM.out⟩
theorem text_of {w : World} {g n c a : Nat} {A : Option Addr} {l : List Nat} {sh : Bool} (h : RdS w g A n c l a sh) :
    Calls Tryd.prog 53 #[.pointer (some ⟨g, 0, none⟩)] w fun e w' => e = .returned (.string (txS l a).1) ∧ RdS w' g A n c l (txS l a).2.1 (sh || (txS l a).2.2) ∧ Mod (fun i => i = g) w w' := by
  obtain ⟨hs, hg⟩ := txS_read h.le
  have HS := Lib.hid hs
  have HR := Lib.hid h
  have hle := txS_le h.le
  obtain ⟨⟨c0, c1, _⟩, _⟩ := rdr_cells h.row
  have hy := txS_bad (l := l) (a := a)
  clear h hs
  obtain ⟨rd, hrd⟩ : ∃ rd, readS l (a : Int) = rd := ⟨_, rfl⟩
  rw [hrd] at HS hg
  obtain ⟨rs, rn, re⟩ := rd
  have HD := Lib.hid hrd
  clear hrd
  generalize txS l a = q at *
  obtain ⟨x, y, z⟩ := q
  dsimp only at *
  rcases hg with ⟨rfl, rfl, rfl⟩ | ⟨rfl, rfl, rfl⟩
  · obtain ⟨rfl, hya⟩ : x = ByteArray.empty ∧ y = a := by
      have := (hy rfl).1
      injection this with e1 e2
      injection e2 with e2 _
      exact ⟨e1, e2⟩
    obtain rfl := hya.symm
    clear hy hle
    go_enter Tryd.func53, Tryd.ntmps53
    go_wp2_with fail
    have HR := Lib.hid (HR.out.ext (Ext.refl w).drew)
    have hc := oread_any A l n c _ a _ HR.out.laid HR.out.by_.len HR.out.by_.cap HR.out.by_.rd HR.out.most
    rw [HD.out] at hc
    dsimp only at hc
    rw [HS.out] at hc
    have HC := Lib.hid hc
    clear hc
    go_region_held3 (fun w' => w'.cell? ⟨g, 0, none⟩ = some (.slice A n c) ∧ w'.cell? ⟨g, 1, none⟩ = some (.int .i64 (a : Int)))
      (first | with_reducible exact ⟨c0, c1⟩ | go_keep)
      (first
        | (go_at_call 55; ((with_reducible refine HC.out.mono ?_); rintro r w' ⟨rfl, rfl⟩)))
    go_wp2_with fail
    refine (pass_no HR.out _).mono ?_
    rintro r w2 ⟨rfl, hr, hm⟩
    have HR := Lib.hid hr
    have HM := Lib.hid (mod_drew hm)
    clear hr hm c0 c1
    go_wp2_with fail
    go_ret
    exact ⟨rfl, by rw [Bool.or_true]; exact HR.out, HM.out⟩
  · have HL := Lib.hid hle
    clear hy hle
    go_enter Tryd.func53, Tryd.ntmps53
    go_wp2_with fail
    have HR := Lib.hid (HR.out.ext (Ext.refl w).drew)
    have hc := oread_any A l n c _ a _ HR.out.laid HR.out.by_.len HR.out.by_.cap HR.out.by_.rd HR.out.most
    rw [HD.out] at hc
    dsimp only at hc
    rw [HS.out] at hc
    have HC := Lib.hid hc
    clear hc
    go_region_held3 (fun w' => w'.cell? ⟨g, 0, none⟩ = some (.slice A n c) ∧ w'.cell? ⟨g, 1, none⟩ = some (.int .i64 (a : Int)))
      (first | with_reducible exact ⟨c0, c1⟩ | go_keep)
      (first
        | (go_at_call 55; ((with_reducible refine HC.out.mono ?_); rintro r w' ⟨rfl, rfl⟩)))
    go_wp2_with fail
    refine (pass_yes HR.out _ HL.out).mono ?_
    rintro r w2 ⟨rfl, hr, hm⟩
    have HR := Lib.hid hr
    have HM := Lib.hid (mod_drew hm)
    clear hr hm c0 c1
    go_wp2_with fail
    go_ret
    exact ⟨rfl, by rw [Bool.or_false]; exact HR.out, HM.out⟩
end Go.Proofs.YtoapjgkfggggmaaDoor

/-
  The contracts of the closures of a log's put: a sector's write; what is done unless something has failed.
-/
import Derived.Test.YtmbmpabjclkhlaaGreatDoorQ00
import Derived.Test.YtmbmpabjclkhlaaGreatDoorQ14
import Derived.Test.YtmbmpabjclkhlaaGreatDoorQ15
import Derived.Test.YtmbmpabjclkhlaaGreatDoorQ16
import Derived.Laws.EntriesVeiled
namespace Go.Proofs.YtmbmpabjclkhlaaGreatDoor
set_option maxRecDepth 100000
section
open Go Go.RowKit Go.Shelf
attribute [local go_sem] Oper.semAt_some
theorem sec_keep {F : Nat → Prop} {w w' : World} {bl g bs bb bo : Nat} {v0 v1 v2 v3 v4 : Value} (hF : ¬ F bl ∧ ¬ F g ∧ ¬ F bs ∧ ¬ F bb ∧ ¬ F bo) (hm : Mod F w w') (h : w.cell? ⟨bl, 0, none⟩ = some v0 ∧ w.cell? ⟨g, 1, none⟩ = some v1 ∧ w.cell? ⟨bs, 0, none⟩ = some v2 ∧ w.cell? ⟨bb, 0, none⟩ = some v3 ∧ w.cell? ⟨bo, 0, none⟩ = some v4) :
    w'.cell? ⟨bl, 0, none⟩ = some v0 ∧ w'.cell? ⟨g, 1, none⟩ = some v1 ∧ w'.cell? ⟨bs, 0, none⟩ = some v2 ∧ w'.cell? ⟨bb, 0, none⟩ = some v3 ∧ w'.cell? ⟨bo, 0, none⟩ = some v4 :=
  ⟨mod_cell hm hF.1 h.1, mod_cell hm hF.2.1 h.2.1, mod_cell hm hF.2.2.1 h.2.2.1, mod_cell hm hF.2.2.2.1 h.2.2.2.1, mod_cell hm hF.2.2.2.2 h.2.2.2.2⟩
set_option maxHeartbeats 800000 in
theorem wsector_of {w : World} {g d s bl bs bb bo : Nat} {r inc : Int} {F : Nat → Prop} {m : DM} (h : LogAt w g d r inc s) (hd : PDisk w d F m) (S : Int) (ga oa n c : Nat) (L : List Nat) (o : Nat) (hb : By w (some ⟨ga, oa, none⟩) n c L) (hoff : ¬ F ga) (ho : o + 64 ≤ n) (hn : n ≤ 1000) (hfew : m.waits.length ≤ 1000000)
    (hF : ¬ F bl ∧ ¬ F g ∧ ¬ F bs ∧ ¬ F bb ∧ ¬ F bo) (cl : w.cell? ⟨bl, 0, none⟩ = some (.pointer (some ⟨g, 0, none⟩))) (cs : w.cell? ⟨bs, 0, none⟩ = some (.int .i64 S)) (cb : w.cell? ⟨bb, 0, none⟩ = some (.slice (some ⟨ga, oa, none⟩) n c)) (co : w.cell? ⟨bo, 0, none⟩ = some (.int .i64 (o : Int))) :
    Calls Tryz.prog 151 #[.pointer (some ⟨bl, 0, none⟩), .pointer (some ⟨bs, 0, none⟩), .pointer (some ⟨bb, 0, none⟩), .pointer (some ⟨bo, 0, none⟩)] w (Outc d F w (m.write S ((L.drop o).take 64)).1 (m.write S ((L.drop o).take 64)).2) := by
  obtain ⟨_, c1, _, _, _⟩ := h.cells
  have hcut := cut_mid ga oa n c o (o + 64) (by have := hb.cap; omega) (by omega) (by have := hb.cap; omega)
  rw [show o + 64 - o = 64 by omega] at hcut
  obtain ⟨h64, hh⟩ : ∃ h, h = o + 64 := ⟨_, rfl⟩
  rw [← hh] at hcut
  have ew : IntKind.i64.wrap ((o : Int) + 64) = (h64 : Int) := by rw [wrap_i64 (by omega) (by omega)]; omega
  have HW := Lib.hid (write_pd (hd.ext (Below.drew (Ext.refl w))) S (some ⟨ga, oa + o, none⟩) 64 (c - o) ((L.drop o).take 64) ((hb.piece o ho).ext (Below.drew (Ext.refl w))) (fun p hp => by injection hp with hp; subst hp; exact hoff) hfew)
  have HFF := Lib.hid hF
  have hS0 : w.drew.cell? ⟨bl, 0, none⟩ = some (.pointer (some ⟨g, 0, none⟩)) ∧ w.drew.cell? ⟨g, 1, none⟩ = some (.pointer (some ⟨d, 0, none⟩)) ∧ w.drew.cell? ⟨bs, 0, none⟩ = some (.int .i64 S) ∧ w.drew.cell? ⟨bb, 0, none⟩ = some (.slice (some ⟨ga, oa, none⟩) n c) ∧ w.drew.cell? ⟨bo, 0, none⟩ = some (.int .i64 (o : Int)) := ⟨cl, c1, cs, cb, co⟩
  clear h hd hb hoff ho hfew hn hh hF
  go_enter Tryz.func151, Tryz.ntmps151
  go_wp2_with fail
  go_region_held3 (fun w' => w'.cell? ⟨bl, 0, none⟩ = some (.pointer (some ⟨g, 0, none⟩)) ∧ w'.cell? ⟨g, 1, none⟩ = some (.pointer (some ⟨d, 0, none⟩)) ∧ w'.cell? ⟨bs, 0, none⟩ = some (.int .i64 S) ∧ w'.cell? ⟨bb, 0, none⟩ = some (.slice (some ⟨ga, oa, none⟩) n c) ∧ w'.cell? ⟨bo, 0, none⟩ = some (.int .i64 (o : Int)))
    (first | with_reducible exact hS0 | exact hS1)
    (first | (go_at_call 85; ((with_reducible refine HW.out.mono ?_); rintro e w1 ⟨rfl, ho⟩; have HO := Lib.hid ho; have hS1 := sec_keep HFF.out ho.2 hS0; clear ho)))
  go_wp2_with fail
  go_ret
  exact ⟨rfl, HO.out.1, (Mod.of_ext (Below.drew (Ext.refl w))).trans HO.out.2 fun _ hi => .inl hi⟩
set_option maxHeartbeats 800000 in
theorem wunless_no {w : World} {bf : Nat} {E : Int} (v : Value) (h0 : E ≠ 0) (hc : w.cell? ⟨bf, 0, none⟩ = some (.int .i64 E)) :
    Calls Tryz.prog 148 #[v, .pointer (some ⟨bf, 0, none⟩)] w fun e w' => (∃ v, e = .returned v) ∧ w' = w := by
  have hne : (E == 0) = false := by simpa using h0
  clear h0
  go_enter Tryz.func148, Tryz.ntmps148
  go_wp2_with fail
  go_end0
  exact ⟨⟨_, rfl⟩, rfl⟩
set_option maxHeartbeats 800000 in
theorem wunless_flush {w0 w : World} {d bf : Nat} {F F' : Nat → Prop} {x : Int × DM} (h : WrS w0 d F F' bf w x) :
    Calls Tryz.prog 148 #[.func (.func 152) #[.pointer (some ⟨d, 0, none⟩)] #[], .pointer (some ⟨bf, 0, none⟩)] w fun e w' => (∃ v, e = .returned v) ∧ WrT w0 d F F' bf w w' (unE x DM.flush) := by
  obtain ⟨E, m⟩ := x
  by_cases h0 : E = 0
  · subst h0
    obtain ⟨hc, hf⟩ := h.cell
    have hnb : ¬ F' bf := h.off
    have H := Lib.hid h
    have HF := Lib.hid (flush_pd h.disk)
    have HN := Lib.hid hnb
    have HE : Hid (unE ((0 : Int), m) DM.flush = m.flush) := Lib.hid (if_pos rfl)
    rw [HE.out]
    obtain ⟨E', hE'⟩ : ∃ E', m.flush.1 = E' := ⟨_, rfl⟩
    obtain ⟨m', hm'⟩ : ∃ m', m.flush.2 = m' := ⟨_, rfl⟩
    rw [hE', hm'] at HF
    have HP : Hid (m.flush = (E', m')) := Lib.hid (by rw [← hE', ← hm'])
    clear h hnb HE hE' hm'
    go_enter Tryz.func148, Tryz.ntmps148
    go_wp2_with fail
    refine HF.out.mono ?_
    rintro e w1 ⟨rfl, ho⟩
    have hrow := (ho.2.block bf (Array.getElem?_eq_some_iff.1 H.out.row).1 HN.out).trans H.out.row
    have hc1 := cell_of_row w1 bf 0 _ _ _ hrow
    have hf1 := frozen_of_row w1 bf 0 _ _ hrow
    have hl1 := (Array.getElem?_eq_some_iff.1 hrow).1
    have HO := Lib.hid ho
    clear ho hrow hc hf
    go_wp2_with fail
    go_end0
    refine ⟨⟨_, rfl⟩, ?_⟩
    rw [HP.out]
    exact H.out.put (e := .returned (.int .i64 E')) ⟨rfl, HO.out⟩
  · have hu : unE (E, m) DM.flush = (E, m) := if_neg h0
    rw [hu]
    refine (wunless_no _ h0 h.cell.1).mono ?_
    rintro e w' ⟨hv, rfl⟩
    exact ⟨hv, h.same⟩
set_option maxHeartbeats 800000 in
theorem wunless_write {w0 w : World} {g d s bf bl bs bb bo : Nat} {r inc : Int} {F F' : Nat → Prop} {x : Int × DM} (h : WrS w0 d F F' bf w x) (hg : LogAt w g d r inc s)
    (S : Int) (ga oa n c : Nat) (L : List Nat) (o : Nat) (hb : By w (some ⟨ga, oa, none⟩) n c L) (hoff : ¬ F' ga) (ho : o + 64 ≤ n) (hn : n ≤ 1000) (hfew : x.2.waits.length ≤ 1000000) (hF : ¬ F' bl ∧ ¬ F' g ∧ ¬ F' bs ∧ ¬ F' bb ∧ ¬ F' bo)
    (cl : w.cell? ⟨bl, 0, none⟩ = some (.pointer (some ⟨g, 0, none⟩))) (cs : w.cell? ⟨bs, 0, none⟩ = some (.int .i64 S)) (cb : w.cell? ⟨bb, 0, none⟩ = some (.slice (some ⟨ga, oa, none⟩) n c)) (co : w.cell? ⟨bo, 0, none⟩ = some (.int .i64 (o : Int))) :
    Calls Tryz.prog 148 #[.func (.func 151) #[] #[.pointer (some ⟨bl, 0, none⟩), .pointer (some ⟨bs, 0, none⟩), .pointer (some ⟨bb, 0, none⟩), .pointer (some ⟨bo, 0, none⟩)], .pointer (some ⟨bf, 0, none⟩)] w fun e w' => (∃ v, e = .returned v) ∧ WrT w0 d F F' bf w w' (unE x fun m => m.write S ((L.drop o).take 64)) := by
  obtain ⟨E, m⟩ := x
  by_cases h0 : E = 0
  · subst h0
    obtain ⟨hc, hf⟩ := h.cell
    have hnb : ¬ F' bf := h.off
    have H := Lib.hid h
    have HF := Lib.hid (wsector_of hg h.disk S ga oa n c L o hb hoff ho hn hfew hF cl cs cb co)
    have HN := Lib.hid hnb
    have HE : Hid (unE ((0 : Int), m) (fun m => m.write S ((L.drop o).take 64)) = m.write S ((L.drop o).take 64)) := Lib.hid (if_pos rfl)
    rw [HE.out]
    obtain ⟨E', hE'⟩ : ∃ E', (m.write S ((L.drop o).take 64)).1 = E' := ⟨_, rfl⟩
    obtain ⟨m', hm'⟩ : ∃ m', (m.write S ((L.drop o).take 64)).2 = m' := ⟨_, rfl⟩
    rw [hE', hm'] at HF
    have HP : Hid (m.write S ((L.drop o).take 64) = (E', m')) := Lib.hid (by rw [← hE', ← hm'])
    clear h hnb HE hE' hm' hg hb hoff ho hn hfew hF cl cs cb co
    go_enter Tryz.func148, Tryz.ntmps148
    go_wp2_with fail
    refine HF.out.mono ?_
    rintro e w1 ⟨rfl, ho⟩
    have hrow := (ho.2.block bf (Array.getElem?_eq_some_iff.1 H.out.row).1 HN.out).trans H.out.row
    have hc1 := cell_of_row w1 bf 0 _ _ _ hrow
    have hf1 := frozen_of_row w1 bf 0 _ _ hrow
    have hl1 := (Array.getElem?_eq_some_iff.1 hrow).1
    have HO := Lib.hid ho
    clear ho hrow hc hf
    go_wp2_with fail
    go_end0
    refine ⟨⟨_, rfl⟩, ?_⟩
    rw [HP.out]
    exact H.out.put (e := .returned (.int .i64 E')) ⟨rfl, HO.out⟩
  · have hu : unE (E, m) (fun m => m.write S ((L.drop o).take 64)) = (E, m) := if_neg h0
    rw [hu]
    refine (wunless_no _ h0 h.cell.1).mono ?_
    rintro e w' ⟨hv, rfl⟩
    exact ⟨hv, h.same⟩
set_option maxHeartbeats 800000 in
theorem writing_of (g : Nat) (i : Int) (w : World) :
    Calls Tryz.prog 72 #[.pointer (some ⟨g, 0, none⟩), .int .i64 i] w fun e w' => ∃ bl bi bf bu, e = .returned (.func (.func 149) #[] #[.pointer (some ⟨bl, 0, none⟩), .pointer (some ⟨bi, 0, none⟩), .pointer (some ⟨bu, 0, none⟩), .pointer (some ⟨bf, 0, none⟩)]) ∧
      (w.heap.size ≤ bl ∧ w.heap.size ≤ bi ∧ w.heap.size ≤ bf ∧ w.heap.size ≤ bu) ∧ (bf ≠ bl ∧ bf ≠ bi ∧ bf ≠ bu) ∧ Ext w w' ∧ w'.cell? ⟨bl, 0, none⟩ = some (.pointer (some ⟨g, 0, none⟩)) ∧ w'.cell? ⟨bi, 0, none⟩ = some (.int .i64 i) ∧ w'.heap[bf]? = some (.cells #[.int .i64 0] 25 (0, 0)) ∧
      w'.cell? ⟨bu, 0, none⟩ = some (.func (.func 148) #[] #[.pointer (some ⟨bf, 0, none⟩)]) := by
  go_enter Tryz.func72, Tryz.ntmps72
  go_wp2_with fail
  go_ret
  have hE : Ext w ((((w.alloc (.cells #[.pointer (some ⟨g, 0, none⟩)] 31)).alloc (.cells #[.int .i64 i] 3)).alloc (.cells #[.int .i64 0] 25)).alloc (.cells #[.func (.func 148) #[] #[.pointer (some ⟨w.heap.size + 1 + 1, 0, none⟩)]] 235)) := ((((Ext.refl w).alloc _).alloc _).alloc _).alloc _
  refine ⟨_, _, _, _, rfl, ⟨?_, ?_, ?_, ?_⟩, ⟨by omega, by omega, by omega⟩, hE, ?_, ?_, ?_, ?_⟩
  · omega
  · omega
  · omega
  · omega
  · simp [go_sem]
  · simp [go_sem]
  · have h0 := heap_alloc_last ((w.alloc (.cells #[.pointer (some ⟨g, 0, none⟩)] 31)).alloc (.cells #[.int .i64 i] 3)) (.cells #[.int .i64 0] 25)
    rw [World.size_alloc, World.size_alloc] at h0
    exact (Below.heap_alloc _ _ _ (by simp)).trans h0
  · simp [go_sem]
end
section
open Go Go.RowKit Go.Shelf
attribute [local go_sem] Oper.semAt_some
structure WBox (w : World) (F : Nat → Prop) (g d s : Nat) (r inc i : Int) (bl bi bu bf : Nat) : Prop where
  log : LogAt w g d r inc s
  cl : w.cell? ⟨bl, 0, none⟩ = some (.pointer (some ⟨g, 0, none⟩))
  ci : w.cell? ⟨bi, 0, none⟩ = some (.int .i64 i)
  cu : w.cell? ⟨bu, 0, none⟩ = some (.func (.func 148) #[] #[.pointer (some ⟨bf, 0, none⟩)])
  off : ¬ F g ∧ ¬ F bl ∧ ¬ F bi ∧ ¬ F bu
  ne : bf ≠ g ∧ bf ≠ bl ∧ bf ≠ bi ∧ bf ≠ bu
section
variable {w w' : World} {F : Nat → Prop} {g d s : Nat} {r inc i : Int} {bl bi bu bf : Nat}
theorem WBox.lts (h : WBox w F g d s r inc i bl bi bu bf) : g < w.heap.size ∧ bl < w.heap.size ∧ bi < w.heap.size ∧ bu < w.heap.size :=
  ⟨h.log.lt, World.block_lt_of_cell? w _ h.cl, World.block_lt_of_cell? w _ h.ci, World.block_lt_of_cell? w _ h.cu⟩
theorem WBox.ext (h : WBox w F g d s r inc i bl bi bu bf) (hx : Ext w w') : WBox w' F g d s r inc i bl bi bu bf := ⟨h.log.ext hx, ext_of_cell hx h.cl, ext_of_cell hx h.ci, ext_of_cell hx h.cu, h.off, h.ne⟩
theorem WBox.wrt {F' : Nat → Prop} (h : WBox w F g d s r inc i bl bi bu bf) (hs : ∀ k, k < w.heap.size → F' k → F k) (hm : Mod (fun k => F k ∨ k = bf) w w') : WBox w' F' g d s r inc i bl bi bu bf := by
  obtain ⟨l1, l2, l3, l4⟩ := h.lts
  have ne : ∀ k, ¬ F k → bf ≠ k → ¬ (F k ∨ k = bf) := fun k h1 h2 hh => hh.elim h1 fun e => h2 e.symm
  exact ⟨h.log.mod hm (ne _ h.off.1 h.ne.1), mod_cell hm (ne _ h.off.2.1 h.ne.2.1) h.cl, mod_cell hm (ne _ h.off.2.2.1 h.ne.2.2.1) h.ci, mod_cell hm (ne _ h.off.2.2.2 h.ne.2.2.2) h.cu,
    ⟨fun hk => h.off.1 (hs _ l1 hk), fun hk => h.off.2.1 (hs _ l2 hk), fun hk => h.off.2.2.1 (hs _ l3 hk), fun hk => h.off.2.2.2 (hs _ l4 hk)⟩, h.ne⟩
end
structure FBox (w : World) (F : Nat → Prop) (bf bb ga oa n c : Nat) (L : List Nat) : Prop where
  row : By w (some ⟨ga, oa, none⟩) n c L
  cb : w.cell? ⟨bb, 0, none⟩ = some (.slice (some ⟨ga, oa, none⟩) n c)
  off : ¬ F ga ∧ ¬ F bb
  ne : bf ≠ ga ∧ bf ≠ bb
  lts : ga < w.heap.size ∧ bb < w.heap.size
theorem FBox.ext {w w' : World} {F : Nat → Prop} {bf bb ga oa n c : Nat} {L : List Nat} (h : FBox w F bf bb ga oa n c L) (hx : Ext w w') : FBox w' F bf bb ga oa n c L :=
  ⟨h.row.ext hx, ext_of_cell hx h.cb, h.off, h.ne, Nat.lt_of_lt_of_le h.lts.1 hx.size, Nat.lt_of_lt_of_le h.lts.2 hx.size⟩
theorem FBox.wrt {w w' : World} {F F' : Nat → Prop} {bf bb ga oa n c : Nat} {L : List Nat} (h : FBox w F bf bb ga oa n c L) (hs : ∀ k, k < w.heap.size → F' k → F k) (hm : Mod (fun k => F k ∨ k = bf) w w') : FBox w' F' bf bb ga oa n c L := by
  have ne : ∀ k, ¬ F k → bf ≠ k → ¬ (F k ∨ k = bf) := fun k h1 h2 hh => hh.elim h1 fun e => h2 e.symm
  exact ⟨h.row.mod hm fun p hp => (by injection hp with hp; subst hp; exact ne _ h.off.1 h.ne.1), mod_cell hm (ne _ h.off.2 h.ne.2) h.cb, ⟨fun hk => h.off.1 (hs _ h.lts.1 hk), fun hk => h.off.2 (hs _ h.lts.2 hk)⟩, h.ne,
    Nat.lt_of_lt_of_le h.lts.1 hm.size, Nat.lt_of_lt_of_le h.lts.2 hm.size⟩
theorem keep4W {w : World} {a b c e : Addr} {v0 v1 v2 v3 : Value} (o : Obj) (h : w.drew.cell? a = some v0 ∧ w.drew.cell? b = some v1 ∧ w.drew.cell? c = some v2 ∧ w.drew.cell? e = some v3) :
    (w.alloc o).drew.cell? a = some v0 ∧ (w.alloc o).drew.cell? b = some v1 ∧ (w.alloc o).drew.cell? c = some v2 ∧ (w.alloc o).drew.cell? e = some v3 :=
  have hx : Ext w (w.alloc o) := (Ext.refl w).alloc o
  have one : ∀ {x : Addr} {v : Value}, w.drew.cell? x = some v → (w.alloc o).drew.cell? x = some v := fun {x _} hh => (Below.cell hx (p := x) (World.block_lt_of_cell? w _ hh)).trans hh
  ⟨one h.1, one h.2.1, one h.2.2.1, one h.2.2.2⟩
theorem row_keepW {V W : World} {g : Nat} {o : Obj} (k : Hid (Ext V.drew W)) (h : Hid (V.heap[g]? = some o)) : W.heap[g]? = some o := (k.out.block g (Array.getElem?_eq_some_iff.1 h.out).1).trans h.out
theorem keepT5 {V W : World} {b : Nat} {x0 x1 x2 x3 x4 : Value} (k : Hid (Ext V.drew W)) (h : Hid (V.heap[b]? = some (.cells #[x0, x1, x2, x3, x4] 44 (0, 0)))) :
    W.cell? ⟨b, 0, none⟩ = some x0 ∧ W.cell? ⟨b, 1, none⟩ = some x1 ∧ W.cell? ⟨b, 2, none⟩ = some x2 ∧ W.cell? ⟨b, 3, none⟩ = some x3 ∧ W.cell? ⟨b, 4, none⟩ = some x4 := (five_cells (row_keepW k h)).1
theorem keepT5A {V W : World} {b : Nat} {x0 x1 x2 x3 x4 : Value} (o : Obj) (k : Hid (Ext V.drew W)) (h : Hid (V.heap[b]? = some (.cells #[x0, x1, x2, x3, x4] 44 (0, 0)))) :
    (W.alloc o).cell? ⟨b, 0, none⟩ = some x0 ∧ (W.alloc o).cell? ⟨b, 1, none⟩ = some x1 ∧ (W.alloc o).cell? ⟨b, 2, none⟩ = some x2 ∧ (W.alloc o).cell? ⟨b, 3, none⟩ = some x3 ∧ (W.alloc o).cell? ⟨b, 4, none⟩ = some x4 := keepT5 (Lib.hid (k.out.alloc o)) h
theorem hid_alloc {V W : World} (o : Obj) (h : Hid (Ext V W)) : Hid (Ext V (W.alloc o)) := Lib.hid (h.out.alloc o)
theorem new_after2 {V W' : World} {cs : Array Value} {t : TypeId} (h : Ext (V.alloc (.cells cs t)).drew W') : W'.heap[V.heap.size]? = some (.cells cs t (0, 0)) := (h.block _ (by show V.heap.size < (V.alloc _).heap.size; simp)).trans (heap_alloc_new V _)
theorem new_after {W W' : World} {cs : Array Value} {t : TypeId} (h : Ext (W.alloc (.cells cs t)) W') : W'.heap[W.heap.size]? = some (.cells cs t (0, 0)) := (h.block _ (by simp)).trans (heap_alloc_new W _)
theorem keepT5S {V W W2 : World} {b : Nat} {x0 x1 x2 x3 x4 : Value} (v : Value) (k : Hid (Ext V.drew W)) (k2 : Hid (Ext V.drew W2)) (h : Hid (V.heap[b]? = some (.cells #[x0, x1, x2, x3, x4] 44 (0, 0)))) :
    (W.setCell ⟨W2.heap.size, 0, none⟩ v).cell? ⟨b, 0, none⟩ = some x0 ∧ (W.setCell ⟨W2.heap.size, 0, none⟩ v).cell? ⟨b, 1, none⟩ = some x1 ∧ (W.setCell ⟨W2.heap.size, 0, none⟩ v).cell? ⟨b, 2, none⟩ = some x2 ∧ (W.setCell ⟨W2.heap.size, 0, none⟩ v).cell? ⟨b, 3, none⟩ = some x3 ∧ (W.setCell ⟨W2.heap.size, 0, none⟩ v).cell? ⟨b, 4, none⟩ = some x4 := by
  have h1 : b < W2.heap.size := Nat.lt_of_lt_of_le (Array.getElem?_eq_some_iff.1 h.out).1 k2.out.size
  have h2 := heap_set (g := W2.heap.size) (k := 0) (x := v) (show b ≠ W2.heap.size by omega) (row_keepW k h)
  exact (five_cells h2).1
theorem keepT5V {V W : World} {b : Nat} {x0 x1 x2 x3 x4 : Value} (v : Value) (k : Hid (Ext V.drew W)) (h : Hid (V.heap[b]? = some (.cells #[x0, x1, x2, x3, x4] 44 (0, 0)))) :
    (W.setCell ⟨V.heap.size, 0, none⟩ v).cell? ⟨b, 0, none⟩ = some x0 ∧ (W.setCell ⟨V.heap.size, 0, none⟩ v).cell? ⟨b, 1, none⟩ = some x1 ∧ (W.setCell ⟨V.heap.size, 0, none⟩ v).cell? ⟨b, 2, none⟩ = some x2 ∧ (W.setCell ⟨V.heap.size, 0, none⟩ v).cell? ⟨b, 3, none⟩ = some x3 ∧ (W.setCell ⟨V.heap.size, 0, none⟩ v).cell? ⟨b, 4, none⟩ = some x4 := by
  have h1 : b < V.heap.size := (Array.getElem?_eq_some_iff.1 h.out).1
  exact (five_cells (heap_set (g := V.heap.size) (k := 0) (x := v) (show b ≠ V.heap.size by omega) (row_keepW k h))).1
theorem hid_ad {V : World} (o : Obj) : Hid (Ext V.drew (V.alloc o).drew) := Lib.hid (show Ext V.drew (V.drew.alloc o) from (Ext.refl V.drew).alloc o)
theorem FBox.of_ {w w3 V : World} {F : Nat → Prop} {bf bb B : Nat} {A : Option Addr} {c : Nat} {L : List Nat} (hl : 0 < L.length) (hb : By w3 A L.length c L) (ho : w3.ownsRow B 5 1 (.slice A L.length c) L.length (vb L)) (hB : w.heap.size ≤ B) (hF : ∀ k, F k → k < w.heap.size) (hbf : bf < w.heap.size)
    (hbb : w.heap.size ≤ bb) (hne : bb < B ∨ w3.heap.size ≤ bb) (hV : Mod (fun k => k = bb) w3 V) (hc : V.cell? ⟨bb, 0, none⟩ = some (.slice A L.length c)) : ∃ ga oa, A = some ⟨ga, oa, none⟩ ∧ FBox V F bf bb ga oa L.length c L := by
  obtain ⟨ga, oa, e, hg, _⟩ := hb.rd.2 hl
  have hlt := (ho.lt ga (by rw [e]; rfl)).1
  refine ⟨ga, oa, e, ?_, by rw [← e]; exact hc, ⟨fun hf => ?_, fun hf => ?_⟩, ⟨?_, ?_⟩, Nat.lt_of_lt_of_le hg hV.size, World.block_lt_of_cell? V _ hc⟩
  · rw [← e]
    exact hb.mod hV fun p hp hh => by rw [e] at hp; injection hp with hp; subst hp; simp only at hh; omega
  · have := hF _ hf; omega
  · have := hF _ hf; omega
  · omega
  · omega
theorem wrs_waits {m : DM} {E S : Int} {L : List Nat} : ∀ k, (wrsE (E, m) S L k).2.waits.length ≤ m.waits.length + k
  | 0 => by simp [wrsE]
  | k + 1 => by
    have ih := wrs_waits (m := m) (E := E) (S := S) (L := L) k
    show (unE (wrsE (E, m) S L k) _).2.waits.length ≤ _
    unfold unE
    split
    · have : ∀ (m : DM) (s : Int) (b : List Nat), (m.write s b).2.waits.length ≤ m.waits.length + 1 := fun m s b => by
        unfold DM.write
        split
        · simp
        · split
          · simp
          · split <;> simp
      exact Nat.le_trans (this (wrsE (E, m) S L k).2 (S + (k : Int)) ((L.drop (64 * k)).take 64)) (by omega)
    · omega
set_option maxHeartbeats 2400000 in
theorem wframe_of {w : World} {F : Nat → Prop} {g d s : Nat} {r inc i : Int} {bl bi bu bf : Nat} {m : DM} {E : Int} (hb : WBox w F g d s r inc i bl bi bu bf) (hw : WrS w d F F bf w (E, m)) (hL : LaidF w) (hLM : ∀ V, Mod (fun k => F k ∨ k = bf) w V → LaidF V)
    (rg p : Int) (hf : 0 ≤ firstS rg p) (A : Option Addr) (n c : Nat) (body : List Nat) (hby : By w A n c body) (hse : sealE r rg p i inc n (wid rg) = 0) (hfew : m.waits.length + 4 ≤ 1000000) :
    Calls Tryz.prog 149 #[.int .i64 rg, .int .i64 p, .slice A n c, .pointer (some ⟨bl, 0, none⟩), .pointer (some ⟨bi, 0, none⟩), .pointer (some ⟨bu, 0, none⟩), .pointer (some ⟨bf, 0, none⟩)] w fun e w' =>
      e = .returned (.int .i64 (wrfE (E, m) (firstS rg p) (sealL r rg p i inc body (wid rg)) (wid rg)).1) ∧ WrT w d F F bf w w' (wrfE (E, m) (firstS rg p) (sealL r rg p i inc body (wid rg)) (wid rg)) := by
  have hlen : body.length = n := hby.len
  have hsl := sealL_len (a := r) (b := rg) (c := p) (d := i) (e := inc) (s := (wid rg : Int)) (body := body) (by rw [hlen]; exact hse)
  obtain ⟨L, hLL⟩ : ∃ L, sealL r rg p i inc body (wid rg) = L := ⟨_, rfl⟩
  obtain ⟨S, hS⟩ : ∃ S, firstS rg p = S := ⟨_, rfl⟩
  obtain ⟨W, hWW⟩ : ∃ W, wid rg = W := ⟨_, rfl⟩
  have hSin := firstS_in rg p
  have hWD : ∀ V, LaidF V → Calls Tryz.prog 131 #[.int .i64 rg] V fun e w' => e = .returned (.int .i64 W) ∧ Ext V w' := fun V hV => by rw [← hWW]; exact wide_any rg V hV.a.t
  have hSL : ∀ V, Ext w V → Calls Tryz.prog 150 #[.agg #[.int .i64 r, .int .i64 rg, .int .i64 p, .int .i64 i, .int .i64 inc], .slice A n c, .int .i64 W] V fun e w' => ∃ A' c', e = .returned (.tuple #[.slice A' L.length c', .int .i64 0]) ∧ Hid (By w' A' L.length c' L) ∧ Hid (w'.ownsRow V.heap.size 5 1 (.slice A' L.length c') L.length (vb L)) ∧ Ext V w' := fun V hV => by
    rw [← hWW]
    refine (seal_own r rg p i inc (wid rg) A n c body V (hL.ext hV) (hby.ext hV)).mono fun e w' ⟨A', c', h1, h2, h3, h4⟩ => ?_
    rw [hLL, hse] at h1
    rw [hLL] at h2 h3
    exact ⟨A', c', h1, Lib.hid h2, Lib.hid (h3 hse), h4⟩
  have HFI : Hid (∀ V, LaidF V → Calls Tryz.prog 58 #[.int .i64 rg, .int .i64 p] V fun e w' => e = .returned (.int .i64 S) ∧ Ext V w') := Lib.hid fun V hV => by rw [← hS]; exact first_any rg p V hV.a.t
  rw [hLL, hWW] at hsl
  rw [hS] at hf hSin
  rw [hLL, hS, hWW]
  have hS0 : w.drew.cell? ⟨bl, 0, none⟩ = some (.pointer (some ⟨g, 0, none⟩)) ∧ w.drew.cell? ⟨g, 2, none⟩ = some (.int .i64 r) ∧ w.drew.cell? ⟨bi, 0, none⟩ = some (.int .i64 i) ∧ w.drew.cell? ⟨g, 3, none⟩ = some (.int .i64 inc) :=
    ⟨hb.cl, hb.log.cells.2.2.1, hb.ci, hb.log.cells.2.2.2.1⟩
  go_enter Tryz.func149, Tryz.ntmps149
  go_wp2_with fail
  go_region_held3 (fun w' => w'.cell? ⟨bl, 0, none⟩ = some (.pointer (some ⟨g, 0, none⟩)) ∧ w'.cell? ⟨g, 2, none⟩ = some (.int .i64 r) ∧ w'.cell? ⟨bi, 0, none⟩ = some (.int .i64 i) ∧ w'.cell? ⟨g, 3, none⟩ = some (.int .i64 inc))
    (first | with_reducible exact hS0 | exact keep4W _ hS0 | go_keep)
    (fail)
  have hx1 : Ext w (w.alloc (.cells #[.int .i64 r, .int .i64 rg, .int .i64 p, .int .i64 i, .int .i64 inc] 44)).drew := Below.drew ((Ext.refl w).alloc _)
  have hr1 : (w.alloc (.cells #[.int .i64 r, .int .i64 rg, .int .i64 p, .int .i64 i, .int .i64 inc] 44)).drew.heap[w.heap.size]? = some (.cells #[.int .i64 r, .int .i64 rg, .int .i64 p, .int .i64 i, .int .i64 inc] 44 (0, 0)) := heap_alloc_new w _
  obtain ⟨b, hbz⟩ : ∃ b, w.heap.size = b := ⟨_, rfl⟩
  generalize (w.alloc (.cells #[.int .i64 r, .int .i64 rg, .int .i64 p, .int .i64 i, .int .i64 inc] 44)).drew = V1 at *
  rw [hbz] at hr1 ⊢
  have HB := Lib.hid hb
  have HW := Lib.hid hw
  have HL := Lib.hid hL
  have HLM := Lib.hid hLM
  have HF := Lib.hid hf
  have HFEW := Lib.hid hfew
  have HX1 := Lib.hid hx1
  have HR1 := Lib.hid hr1
  have HBZ := Lib.hid hbz
  have HWD : Hid (∀ V, Hid (Ext V1.drew V) → Calls Tryz.prog 131 #[.int .i64 rg] V fun e w' => e = .returned (.int .i64 W) ∧ Ext V w') := Lib.hid fun V hV => hWD V (hL.ext ((hx1.drew).trans hV.out))
  have HSL : Hid (∀ V, Hid (Ext V1.drew V) → Calls Tryz.prog 150 #[.agg #[.int .i64 r, .int .i64 rg, .int .i64 p, .int .i64 i, .int .i64 inc], .slice A n c, .int .i64 W] V fun e w' => ∃ A' c', e = .returned (.tuple #[.slice A' L.length c', .int .i64 0]) ∧ Hid (By w' A' L.length c' L) ∧ Hid (w'.ownsRow V.heap.size 5 1 (.slice A' L.length c') L.length (vb L)) ∧ Ext V w') := Lib.hid fun V hV => hSL V ((hx1.drew).trans hV.out)
  have HWL := Lib.hid hWD
  have HSI := Lib.hid hsl
  have HR0 := Lib.hid (Ext.refl V1.drew)
  have hS2 : V1.drew.cell? ⟨b, 0, none⟩ = some (.int .i64 r) ∧ V1.drew.cell? ⟨b, 1, none⟩ = some (.int .i64 rg) ∧ V1.drew.cell? ⟨b, 2, none⟩ = some (.int .i64 p) ∧ V1.drew.cell? ⟨b, 3, none⟩ = some (.int .i64 i) ∧ V1.drew.cell? ⟨b, 4, none⟩ = some (.int .i64 inc) := (five_cells hr1).1
  clear hb hw hL hLM hx1 hr1 hbz hby hse hlen hfew hS0 hsl hWD hSL hLL hS hWW
  go_wp2_with fail
  go_region_held3 (fun w' => w'.cell? ⟨b, 0, none⟩ = some (.int .i64 r) ∧ w'.cell? ⟨b, 1, none⟩ = some (.int .i64 rg) ∧ w'.cell? ⟨b, 2, none⟩ = some (.int .i64 p) ∧ w'.cell? ⟨b, 3, none⟩ = some (.int .i64 i) ∧ w'.cell? ⟨b, 4, none⟩ = some (.int .i64 inc))
    (first | with_reducible exact hS2 | exact keepT5 (by assumption) HR1 | exact keepT5A _ (by assumption) HR1 | exact keepT5 (hid_ad _) HR1 | exact keepT5S _ (by assumption) (by assumption) HR1 | exact keepT5V _ (by assumption) HR1 | go_keep)
    (first
      | (go_at_call 131; ((with_reducible refine (HWD.out _ HR0).mono ?_); rintro e w2 ⟨rfl, hx⟩; have HXk := Lib.hid hx; clear hx))
      | (go_at_call 131; ((with_reducible refine (HWD.out _ (hid_ad _)).mono ?_); rintro e w2 ⟨rfl, hx⟩; have HXk : Hid (Ext V1.drew w2) := Lib.hid ((hid_ad _).out.trans hx); have HN2 := Lib.hid (new_after2 hx); clear hx))
      | (go_at_call 150; ((with_reducible refine (HSL.out _ HXk).mono ?_); rintro e w3 ⟨A1, c1, rfl, HBY, HOWN, hx⟩; have HXk3 : Hid (Ext V1.drew w3) := Lib.hid (HXk.out.trans hx); (first | (have HNR := Lib.hid ((hx.block _ (Array.getElem?_eq_some_iff.1 HN2.out).1).trans HN2.out); have hbc := cell_of_row w3 V1.heap.size 0 _ _ _ HNR.out; have hbf := frozen_of_row w3 V1.heap.size 0 _ _ HNR.out; have hbl := (Array.getElem?_eq_some_iff.1 HNR.out).1) | skip); clear hx))
      | (go_at_call 150; ((with_reducible refine (HSL.out _ (hid_alloc _ HXk)).mono ?_); rintro e w3 ⟨A1, c1, rfl, HBY, HOWN, hx⟩; have HXk3 : Hid (Ext V1.drew w3) := Lib.hid ((hid_alloc _ HXk).out.trans hx); have HNR := Lib.hid (new_after hx); have hbc := cell_of_row w3 w2.heap.size 0 _ _ _ HNR.out; have hbf := frozen_of_row w3 w2.heap.size 0 _ _ HNR.out; have hbl := (Array.getElem?_eq_some_iff.1 HNR.out).1; clear hx)))
  all_goals
    have hlt := HW.out.disk.lt
    have hbf0 : bf < w.heap.size := (Array.getElem?_eq_some_iff.1 HW.out.row).1
    have hl0 : 0 < L.length := by have := HSI.out; omega
    have hs1 := HX1.out.size
    have hs2 : V1.heap.size ≤ w2.heap.size := HXk.out.size
    have hs3 : V1.heap.size ≤ w3.heap.size := HXk3.out.size
    have hx3 : Ext w w3 := (HX1.out.drew).trans HXk3.out
    first
      | (have hn2 := (Array.getElem?_eq_some_iff.1 HN2.out).1
         obtain ⟨ga, oa, e, hfb⟩ := FBox.of_ (V := w3.setCell ⟨V1.heap.size, 0, none⟩ (.slice A1 L.length c1)) (bb := V1.heap.size) hl0 HBY.out HOWN.out (by omega) hlt hbf0 (by omega) (.inl (by omega)) ((Mod.refl (fun k => k = V1.heap.size) w3).setCell (p := ⟨V1.heap.size, 0, none⟩) (.inl rfl) _) (cell_of_row _ _ 0 _ _ _ (row_set (cs' := #[.slice A1 L.length c1]) 0 HNR.out (.slice A1 L.length c1) rfl))
         have hxv : Ext w (w3.setCell ⟨V1.heap.size, 0, none⟩ (.slice A1 L.length c1)) := hx3.setCell (p := ⟨V1.heap.size, 0, none⟩) (show w.heap.size ≤ V1.heap.size by omega) (.slice A1 L.length c1)
         clear hbc hbf hbl HN2 HNR hn2
         generalize w3.setCell ⟨V1.heap.size, 0, none⟩ (.slice A1 L.length c1) = V3 at hfb hxv ⊢
         generalize V1.heap.size = bb at hfb ⊢)
      | (have hn2 := (Array.getElem?_eq_some_iff.1 HNR.out).1
         obtain ⟨ga, oa, e, hfb⟩ := FBox.of_ (V := w3.setCell ⟨w2.heap.size, 0, none⟩ (.slice A1 L.length c1)) (bb := w2.heap.size) hl0 HBY.out HOWN.out (by simp; omega) hlt hbf0 (by omega) (.inl (by simp)) ((Mod.refl (fun k => k = w2.heap.size) w3).setCell (p := ⟨w2.heap.size, 0, none⟩) (.inl rfl) _) (cell_of_row _ _ 0 _ _ _ (row_set (cs' := #[.slice A1 L.length c1]) 0 HNR.out (.slice A1 L.length c1) rfl))
         have hxv : Ext w (w3.setCell ⟨w2.heap.size, 0, none⟩ (.slice A1 L.length c1)) := hx3.setCell (p := ⟨w2.heap.size, 0, none⟩) (show w.heap.size ≤ w2.heap.size by omega) (.slice A1 L.length c1)
         clear hbc hbf hbl HNR hn2
         generalize w3.setCell ⟨w2.heap.size, 0, none⟩ (.slice A1 L.length c1) = V3 at hfb hxv ⊢
         generalize w2.heap.size = bb at hfb ⊢)
      | (obtain ⟨ga, oa, e, hfb⟩ := FBox.of_ (V := w3.alloc (.cells #[.slice A1 L.length c1] 45)) (bb := w3.heap.size) hl0 HBY.out HOWN.out (by omega) hlt hbf0 (by omega) (.inr (Nat.le_refl _)) (Mod.of_ext ((Ext.refl w3).alloc _)) (cell_of_row _ _ 0 _ _ _ (heap_alloc_new w3 _))
         have hxv := hx3.alloc (.cells #[.slice A1 L.length c1] 45)
         generalize w3.alloc (.cells #[.slice A1 L.length c1] 45) = V3 at hfb hxv ⊢
         generalize w3.heap.size = bb at hfb ⊢)
    subst e
    have HFB := Lib.hid hfb
    have HXV := Lib.hid hxv
    have HS0 := Lib.hid (And.intro hl0 hbf0)
    have hw12 := HSI.out.2
    clear hfb hxv hl0 hbf0 hlt hs1 hs2 hs3 hx3 HBY HOWN HXk3 HXk HR0 hS2 HWD HSL HR1 HX1 HBZ
    go_wp2_with fail
    refine (HWL.out V3 (HL.out.ext HXV.out)).mono ?_
    rintro e w4 ⟨rfl, hx⟩
    have HFB := Lib.hid (HFB.out.ext hx)
    have HB4 := Lib.hid (HB.out.ext (HXV.out.trans hx))
    have HW4 := Lib.hid (HW.out.ext (HXV.out.trans hx))
    clear hx HXV
    have HLE : Hid (L.length = 64 * W) := Lib.hid (by have := HSI.out.1; omega)
    have hW2 : W ≤ 2 := by omega
    have hW1 : 1 ≤ W := by omega
    clear hw12 HSI
    go_wp2_with fail
    go_loopw [39] (fun v wr => ∃ (k : Nat) (F' : Nat → Prop), k ≤ W ∧ v = .int .i64 k ∧ Hid (WrS w d F F' bf wr (wrsE (E, m) S L k)) ∧ Hid (WBox wr F' g d s r inc i bl bi bu bf) ∧ Hid (FBox wr F' bf bb ga oa L.length c1 L) ∧ Hid (∀ k, k < w.heap.size → F' k → F k)) (fun v _ => W - (intOf v).toNat)
    case atStart => exact ⟨0, F, Nat.zero_le _, rfl, HW4, HB4, HFB, Lib.hid fun _ _ h => h⟩
    case round =>
      obtain ⟨k, F', hk, rfl, HWr, HBr, HFr, HSb⟩ := hrel
      by_cases hlt : k < W
      · have hw15 : IntKind.i64.wrap ((k : Int) * 64) = ((64 * k : Nat) : Int) := by rw [wrap_i64 (by omega) (by omega)]; omega
        go_wp2_with fail
        refine (HFI.out wr (HLM.out _ HWr.out.mod)).mono ?_
        rintro e w5 ⟨rfl, hx⟩
        have HW5 := Lib.hid (HWr.out.ext hx)
        have HB5 := Lib.hid (HBr.out.ext hx)
        have HF5 := Lib.hid (HFr.out.ext hx)
        have hcu := HB5.out.cu
        have hlu := HB5.out.lts.2.2.2
        clear hx
        go_wp2_with fail
        have hx6 : Ext w5 ((w5.alloc (.cells #[.int .i64 (S + (k : Int))] 3)).alloc (.cells #[.int .i64 (64 * (k : Int))] 3)) := ((Ext.refl w5).alloc _).alloc _
        have hcs := ext_of_cell ((Ext.refl (w5.alloc (.cells #[.int .i64 (S + (k : Int))] 3))).alloc (.cells #[.int .i64 (64 * (k : Int))] 3)) (cell_of_row _ _ 0 _ _ _ (heap_alloc_new w5 (.cells #[.int .i64 (S + (k : Int))] 3)))
        have hco : ((w5.alloc (.cells #[.int .i64 (S + (k : Int))] 3)).alloc (.cells #[.int .i64 (64 * (k : Int))] 3)).cell? ⟨w5.heap.size + 1, 0, none⟩ = some (.int .i64 ((64 * k : Nat) : Int)) := cell_of_row _ _ 0 _ _ _ (heap_alloc2_new w5 _ _)
        have hlt5 := HW5.out.disk.lt
        have hn0 : ¬ F' w5.heap.size := fun h => by have := hlt5 _ h; omega
        have hn1 : ¬ F' (w5.heap.size + 1) := fun h => by have := hlt5 _ h; omega
        have HB6 := Lib.hid (HB5.out.ext hx6)
        have HF6 := Lib.hid (HF5.out.ext hx6)
        have HW6 := Lib.hid (HW5.out.ext hx6)
        have hLw := HLE.out
        have hwt := wrs_waits (m := m) (E := E) (S := S) (L := L) k
        have hfw := HFEW.out
        refine (wunless_write HW6.out HB6.out.log (S + (k : Int)) ga oa L.length c1 L (64 * k) HF6.out.row HF6.out.off.1 (by omega) (by omega) (by omega) ⟨HB6.out.off.2.1, HB6.out.off.1, hn0, HF6.out.off.2, hn1⟩ HB6.out.cl hcs HF6.out.cb hco).mono ?_
        rintro e w6 ⟨⟨v6, rfl⟩, F'', hw6, hs6, hm6⟩
        have HW7 := Lib.hid hw6
        have HB7 := Lib.hid (HB6.out.wrt hs6 hm6)
        have HF7 := Lib.hid (HF6.out.wrt hs6 hm6)
        have HS7 : Hid (∀ k, k < w.heap.size → F'' k → F k) := Lib.hid fun k hk hf => HSb.out k hk (hs6 k (Nat.lt_of_lt_of_le hk (Nat.le_trans HW5.out.mod.size hx6.size)) hf)
        clear hx6 hcs hco hlt5 hn0 hn1 hLw hwt hfw hw6 hs6 hm6 hcu hlu
        go_wp2_with fail
        go_roundw
        case rel => exact ⟨k + 1, F'', by omega, by go_num, HW7, HB7, HF7, HS7⟩
        case measure => simp [intOf]; omega
      · obtain rfl : k = W := by omega
        have hS3 : wr.drew.cell? ⟨bu, 0, none⟩ = some (.func (.func 148) #[] #[.pointer (some ⟨bf, 0, none⟩)]) ∧ wr.drew.cell? ⟨bl, 0, none⟩ = some (.pointer (some ⟨g, 0, none⟩)) ∧ wr.drew.cell? ⟨g, 1, none⟩ = some (.pointer (some ⟨d, 0, none⟩)) := ⟨HBr.out.cu, HBr.out.cl, HBr.out.log.cells.2.1⟩
        have HFL := Lib.hid (wunless_flush (HWr.out.ext (Below.drew (Ext.refl wr))))
        go_wp2_with fail
        go_region_held3 (fun w' => w'.cell? ⟨bu, 0, none⟩ = some (.func (.func 148) #[] #[.pointer (some ⟨bf, 0, none⟩)]) ∧ w'.cell? ⟨bl, 0, none⟩ = some (.pointer (some ⟨g, 0, none⟩)) ∧ w'.cell? ⟨g, 1, none⟩ = some (.pointer (some ⟨d, 0, none⟩)))
          (first | with_reducible exact hS3 | exact hS4)
          (first | (go_at_call 148; ((with_reducible refine HFL.out.mono ?_); rintro e w5 ⟨⟨v5, rfl⟩, HT5⟩; have hB5 := (HBr.out.ext (Below.drew (Ext.refl wr))).wrt HT5.choose_spec.2.1 HT5.choose_spec.2.2; have hS4 := And.intro hB5.cu (And.intro hB5.cl hB5.log.cells.2.1); have HC := Lib.hid HT5; clear hB5)))
        obtain ⟨F'', hw6, hs6, hm6⟩ := HC.out
        have hc6 := hw6.cell.1
        have HW6 := Lib.hid hw6
        have HS6 : Hid (∀ k, k < w.heap.size → F'' k → F k) := Lib.hid fun k hk hf => HSb.out k hk (hs6 k (Nat.lt_of_lt_of_le hk HWr.out.mod.size) hf)
        clear hw6 hs6 hm6 HC hS4 hS3 HT5
        go_wp2_with fail
        go_ret
        exact ⟨rfl, F'', HW6.out, HS6.out, HW6.out.mod⟩
end
end Go.Proofs.YtmbmpabjclkhlaaGreatDoor

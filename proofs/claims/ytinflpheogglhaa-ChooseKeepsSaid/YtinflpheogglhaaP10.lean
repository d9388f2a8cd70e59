/-
  The laws' own Told, decides, awake: the chapter's examples.
-/
import Derived.Test.YtinflpheogglhaaP00
import Derived.Test.YtinflpheogglhaaP05
import Derived.Test.YtinflpheogglhaaP06
namespace Go.Proofs.Ytinflpheogglhaa
set_option maxRecDepth 100000
section
open Go Go.RowKit
theorem ls_flat {w : World} {b n : Nat} {cs : Array Value} {t : TypeId} {l : List Rpt} (hl : l.length = n) (hm : n ≤ 9223372036854775807) (hc : cs.toList = l.flatMap rptC) (h : w.heap[b]? = some (.cells cs t (0, 0))) : Ls rptC 11 w w.heap.size (some ⟨b, 0, none⟩) n n l := by
  refine ⟨hl, Nat.le_refl _, hm, fun _ => ⟨b, 0, rfl, (Array.getElem?_eq_some_iff.1 h).1, fun j a ha k v hv => ?_⟩, fun e => by cases e⟩
  have hk : k < 11 := (List.getElem?_eq_some_iff.1 hv).1
  have hf := flat_get (cells := rptC) (N := 11) (fun _ => rfl) (by omega) l j k hk
  rw [ha] at hf
  rw [Nat.zero_add, cell_of_row w b _ _ _ _ h, ← Array.getElem?_toList, hc, hf]
  exact hv
theorem heap_new_at {w : World} {o : Obj} {k : Nat} (hk : w.heap.size = k) : (w.alloc o).heap[k]? = some o := by
  subst hk
  exact heap_alloc_new w o
def entW (want : Nat) (sq : Int) : Ent := if want = 2 then { k := 2, sq := sq } else if want = 1 then noopE else {}
def toldR (st : Nat) (x y sq : Int) : Rpt := ⟨0, st, x, y, if st = 2 then { k := 2, sq := sq } else {}⟩
set_option maxHeartbeats 1600000 in
theorem told_of (st : Nat) (x y sq : Int) (w : World) : Calls Try.prog 29 #[.int .u8 (st : Int), .int .i64 x, .int .i64 y, .int .i64 sq] w fun e w' => e = .returned (rA (toldR st x y sq)) ∧ Ext w w' := by
  by_cases hs : st = 2
  · subst hs
    go_enter Try.func29, Try.ntmps29
    go_wp2_with fail
    refine bodyPost_ret (v := rA (toldR 2 x y sq)) (by simp [results, Try.results29, go_sem, toldR]; rfl) rfl ?_
    exact ⟨rfl, ((Ext.refl w).alloc _).alloc _⟩
  · have e : ((st : Int) == 2) = false := by rw [st_is2]; exact decide_eq_false hs
    have HS := Lib.hid hs
    clear hs
    go_enter Try.func29, Try.ntmps29
    go_wp2_with fail
    refine bodyPost_ret (v := rA (toldR st x y sq)) (by simp [results, Try.results29, go_sem, toldR, HS.out]; rfl) rfl ?_
    exact ⟨rfl, ((Ext.refl w).alloc _).alloc _⟩
set_option maxHeartbeats 1600000 in
theorem decides_of (a b c : Rpt) (want : Nat) (sq : Int) (w : World) (hw : want = 0 ∨ want = 1 ∨ want = 2) (hd : decR 3 [a, b, c] = (want, entW want sq)) (he : decE 3 [a, b, c] = 0) :
    Calls Try.prog 30 #[rA a, rA b, rA c, .int .u8 (want : Int), .int .i64 sq] w fun e w' => e = .returned (.bool true) ∧ Ext w w' := by
  obtain ⟨a0, a1, a2, a3, aE⟩ := a
  obtain ⟨b0, b1, b2, b3, bE⟩ := b
  obtain ⟨c0, c1, c2, c3, cE⟩ := c
  obtain ⟨E, hE⟩ : ∃ E, entW want sq = E := ⟨_, rfl⟩
  rw [hE] at hd
  have HD := Lib.hid (And.intro hd he)
  clear hd he
  rcases hw with rfl | rfl | rfl
  · have hq : ∀ V, (binOp .eql 27 (eA E) (.agg #[.int .u8 0, .int .i64 0, .int .i64 0, .int .u8 0, .string ⟨#[]⟩, .string ⟨#[]⟩, .string ⟨#[]⟩])).run Try.prog V = .ok (.bool true) V := fun V => by
      have h := cent_eql E (entW 0 sq) V
      rw [hE, eqE_self] at h
      rw [← hE] at h ⊢
      exact h
    have HQ := Lib.hid hq
    clear hq hE
    go_enter Try.func30, Try.ntmps30
    go_wp2_with fail
    refine (decide_of 3 _ 3 3 [⟨a0, a1, a2, a3, aE⟩, ⟨b0, b1, b2, b3, bE⟩, ⟨c0, c1, c2, c3, cE⟩] _ (ls_flat (t := 54) (cs := (rptC ⟨a0, a1, a2, a3, aE⟩ ++ (rptC ⟨b0, b1, b2, b3, bE⟩ ++ (rptC ⟨c0, c1, c2, c3, cE⟩ ++ []))).toArray) rfl (by omega) rfl (heap_new_at ?hz0))).mono ?_
    case hz0 => simp
    rw [HD.out.1, HD.out.2]
    rintro _ w5 ⟨rfl, hx⟩
    have HX := Lib.hid ((((((Ext.refl w).alloc _).alloc _).alloc _).alloc _).trans hx)
    clear hx
    dsimp only
    go_upto_region 2 with (fail)
    have hg := heap_alloc_new w5 (.cells #[.int .u8 (E.k : Int), .int .i64 E.cl, .int .i64 E.sq, .int .u8 (E.ok : Int), .string E.key, .string E.old, .string E.val] 27)
    have hx := (Ext.refl w5).alloc (.cells #[.int .u8 (E.k : Int), .int .i64 E.cl, .int .i64 E.sq, .int .u8 (E.ok : Int), .string E.key, .string E.old, .string E.val] 27)
    generalize (w5.alloc (.cells #[.int .u8 (E.k : Int), .int .i64 E.cl, .int .i64 E.sq, .int .u8 (E.ok : Int), .string E.key, .string E.old, .string E.val] 27)) = w6 at *
    have HX6 := Lib.hid (HX.out.trans hx)
    have HX7 := Lib.hid ((HX.out.trans hx).alloc (.cells #[.int .u8 0, .int .i64 0, .int .i64 0, .int .u8 0, .string ⟨#[]⟩, .string ⟨#[]⟩, .string ⟨#[]⟩] 27))
    have hg7 := keep_rowB ((Ext.refl w6).alloc (.cells #[.int .u8 0, .int .i64 0, .int .i64 0, .int .u8 0, .string ⟨#[]⟩, .string ⟨#[]⟩, .string ⟨#[]⟩] 27)) hg
    obtain ⟨⟨d0, d1, d2, d3, d4, d5, d6⟩, _⟩ := ent_row hg7
    generalize w5.heap.size = b1 at *
    have hq := HQ.out
    clear hg hg7 hx
    go_wp2_with fail
    go_ret
    exact ⟨rfl, HX7.out⟩
  · have hq : ∀ V, (binOp .eql 27 (eA E) (.agg #[.int .u8 1, .int .i64 0, .int .i64 0, .int .u8 0, .string ⟨#[]⟩, .string ⟨#[]⟩, .string ⟨#[]⟩])).run Try.prog V = .ok (.bool true) V := fun V => by
      have h := cent_eql E (entW 1 sq) V
      rw [hE, eqE_self] at h
      rw [← hE] at h ⊢
      exact h
    have HQ := Lib.hid hq
    clear hq hE
    go_enter Try.func30, Try.ntmps30
    go_wp2_with fail
    refine (decide_of 3 _ 3 3 [⟨a0, a1, a2, a3, aE⟩, ⟨b0, b1, b2, b3, bE⟩, ⟨c0, c1, c2, c3, cE⟩] _ (ls_flat (t := 54) (cs := (rptC ⟨a0, a1, a2, a3, aE⟩ ++ (rptC ⟨b0, b1, b2, b3, bE⟩ ++ (rptC ⟨c0, c1, c2, c3, cE⟩ ++ []))).toArray) rfl (by omega) rfl (heap_new_at ?hz1))).mono ?_
    case hz1 => simp
    rw [HD.out.1, HD.out.2]
    rintro _ w5 ⟨rfl, hx⟩
    have HX := Lib.hid ((((((Ext.refl w).alloc _).alloc _).alloc _).alloc _).trans hx)
    clear hx
    dsimp only
    go_upto_region 2 with (fail)
    have hg := heap_alloc_new w5 (.cells #[.int .u8 (E.k : Int), .int .i64 E.cl, .int .i64 E.sq, .int .u8 (E.ok : Int), .string E.key, .string E.old, .string E.val] 27)
    have hx := (Ext.refl w5).alloc (.cells #[.int .u8 (E.k : Int), .int .i64 E.cl, .int .i64 E.sq, .int .u8 (E.ok : Int), .string E.key, .string E.old, .string E.val] 27)
    generalize (w5.alloc (.cells #[.int .u8 (E.k : Int), .int .i64 E.cl, .int .i64 E.sq, .int .u8 (E.ok : Int), .string E.key, .string E.old, .string E.val] 27)) = w6 at *
    have HX6 := Lib.hid (HX.out.trans hx)
    have HX7 := Lib.hid ((HX.out.trans hx).alloc (.cells #[.int .u8 1, .int .i64 0, .int .i64 0, .int .u8 0, .string ⟨#[]⟩, .string ⟨#[]⟩, .string ⟨#[]⟩] 27))
    have hg7 := keep_rowB ((Ext.refl w6).alloc (.cells #[.int .u8 1, .int .i64 0, .int .i64 0, .int .u8 0, .string ⟨#[]⟩, .string ⟨#[]⟩, .string ⟨#[]⟩] 27)) hg
    obtain ⟨⟨d0, d1, d2, d3, d4, d5, d6⟩, _⟩ := ent_row hg7
    generalize w5.heap.size = b1 at *
    have hq := HQ.out
    clear hg hg7 hx
    go_wp2_with fail
    go_ret
    exact ⟨rfl, HX7.out⟩
  · have hq : ∀ V, (binOp .eql 27 (eA E) (.agg #[.int .u8 2, .int .i64 0, .int .i64 sq, .int .u8 0, .string ⟨#[]⟩, .string ⟨#[]⟩, .string ⟨#[]⟩])).run Try.prog V = .ok (.bool true) V := fun V => by
      have h := cent_eql E (entW 2 sq) V
      rw [hE, eqE_self] at h
      rw [← hE] at h ⊢
      exact h
    have HQ := Lib.hid hq
    clear hq hE
    go_enter Try.func30, Try.ntmps30
    go_wp2_with fail
    refine (decide_of 3 _ 3 3 [⟨a0, a1, a2, a3, aE⟩, ⟨b0, b1, b2, b3, bE⟩, ⟨c0, c1, c2, c3, cE⟩] _ (ls_flat (t := 54) (cs := (rptC ⟨a0, a1, a2, a3, aE⟩ ++ (rptC ⟨b0, b1, b2, b3, bE⟩ ++ (rptC ⟨c0, c1, c2, c3, cE⟩ ++ []))).toArray) rfl (by omega) rfl (heap_new_at ?hz2))).mono ?_
    case hz2 => simp
    rw [HD.out.1, HD.out.2]
    rintro _ w5 ⟨rfl, hx⟩
    have HX := Lib.hid ((((((Ext.refl w).alloc _).alloc _).alloc _).alloc _).trans hx)
    clear hx
    dsimp only
    go_upto_region 2 with (fail)
    have hg := heap_alloc_new w5 (.cells #[.int .u8 (E.k : Int), .int .i64 E.cl, .int .i64 E.sq, .int .u8 (E.ok : Int), .string E.key, .string E.old, .string E.val] 27)
    have hx := (Ext.refl w5).alloc (.cells #[.int .u8 (E.k : Int), .int .i64 E.cl, .int .i64 E.sq, .int .u8 (E.ok : Int), .string E.key, .string E.old, .string E.val] 27)
    generalize (w5.alloc (.cells #[.int .u8 (E.k : Int), .int .i64 E.cl, .int .i64 E.sq, .int .u8 (E.ok : Int), .string E.key, .string E.old, .string E.val] 27)) = w6 at *
    have HX6 := Lib.hid (HX.out.trans hx)
    have HX7 := Lib.hid ((HX.out.trans hx).alloc (.cells #[.int .u8 2, .int .i64 0, .int .i64 sq, .int .u8 0, .string ⟨#[]⟩, .string ⟨#[]⟩, .string ⟨#[]⟩] 27))
    have hg7 := keep_rowB ((Ext.refl w6).alloc (.cells #[.int .u8 2, .int .i64 0, .int .i64 sq, .int .u8 0, .string ⟨#[]⟩, .string ⟨#[]⟩, .string ⟨#[]⟩] 27)) hg
    obtain ⟨⟨d0, d1, d2, d3, d4, d5, d6⟩, _⟩ := ent_row hg7
    generalize w5.heap.size = b1 at *
    have hq := HQ.out
    clear hg hg7 hx
    go_wp2_with fail
    go_ret
    exact ⟨rfl, HX7.out⟩
end
section
open Go Go.RowKit
theorem rowR11 {w : World} {b : Nat} {v0 v1 v2 v3 v4 v5 v6 v7 v8 v9 v10 : Value} {t : TypeId} {fr : Nat × Nat} (h : w.heap[b]? = some (.cells #[v0, v1, v2, v3, v4, v5, v6, v7, v8, v9, v10] t fr)) : w.cell? ⟨b, 0, none⟩ = some v0 ∧ w.cell? ⟨b, 1, none⟩ = some v1 ∧ w.cell? ⟨b, 2, none⟩ = some v2 ∧ w.cell? ⟨b, 3, none⟩ = some v3 ∧ w.cell? ⟨b, 4, none⟩ = some v4 ∧ w.cell? ⟨b, 5, none⟩ = some v5 ∧ w.cell? ⟨b, 6, none⟩ = some v6 ∧ w.cell? ⟨b, 7, none⟩ = some v7 ∧ w.cell? ⟨b, 8, none⟩ = some v8 ∧ w.cell? ⟨b, 9, none⟩ = some v9 ∧ w.cell? ⟨b, 10, none⟩ = some v10 :=
  ⟨cell_of_row w b 0 _ _ _ h, cell_of_row w b 1 _ _ _ h, cell_of_row w b 2 _ _ _ h, cell_of_row w b 3 _ _ _ h, cell_of_row w b 4 _ _ _ h, cell_of_row w b 5 _ _ _ h, cell_of_row w b 6 _ _ _ h, cell_of_row w b 7 _ _ _ h, cell_of_row w b 8 _ _ _ h, cell_of_row w b 9 _ _ _ h, cell_of_row w b 10 _ _ _ h⟩
def Six (w : World) (g h : Nat) : Prop := w.heap[g]? = some (.cells #[.int .i64 0, .int .u8 0, .int .i64 0, .int .i64 0, .int .u8 0, .int .i64 0, .int .i64 0, .int .u8 0, .string ⟨#[]⟩, .string ⟨#[]⟩, .string ⟨#[]⟩] 54 (0, 0)) ∧ w.heap[g + 1]? = some (.cells #[.int .i64 0, .int .u8 1, .int .i64 0, .int .i64 0, .int .u8 0, .int .i64 0, .int .i64 0, .int .u8 0, .string ⟨#[]⟩, .string ⟨#[]⟩, .string ⟨#[]⟩] 54 (0, 0)) ∧ w.heap[g + 2]? = some (.cells #[.int .i64 0, .int .u8 4, .int .i64 0, .int .i64 0, .int .u8 0, .int .i64 0, .int .i64 0, .int .u8 0, .string ⟨#[]⟩, .string ⟨#[]⟩, .string ⟨#[]⟩] 54 (0, 0)) ∧ w.heap[h]? = some (.cells #[.int .i64 0, .int .u8 2, .int .i64 1, .int .i64 0, .int .u8 2, .int .i64 0, .int .i64 7, .int .u8 0, .string ⟨#[]⟩, .string ⟨#[]⟩, .string ⟨#[]⟩] 54 (0, 0)) ∧ w.heap[h + 1]? = some (.cells #[.int .i64 0, .int .u8 2, .int .i64 2, .int .i64 1, .int .u8 2, .int .i64 0, .int .i64 8, .int .u8 0, .string ⟨#[]⟩, .string ⟨#[]⟩, .string ⟨#[]⟩] 54 (0, 0)) ∧ w.heap[h + 2]? = some (.cells #[.int .i64 0, .int .u8 3, .int .i64 2, .int .i64 1, .int .u8 0, .int .i64 0, .int .i64 0, .int .u8 0, .string ⟨#[]⟩, .string ⟨#[]⟩, .string ⟨#[]⟩] 54 (0, 0))
theorem Six.ext {w w' : World} {g h : Nat} (hx : Ext w w') (k : Six w g h) : Six w' g h :=
  ⟨keep_rowB hx k.1, keep_rowB hx k.2.1, keep_rowB hx k.2.2.1, keep_rowB hx k.2.2.2.1, keep_rowB hx k.2.2.2.2.1, keep_rowB hx k.2.2.2.2.2⟩
theorem keep_new {w : World} {k : Nat} {o ob : Obj} (h : w.heap[k]? = some ob) : (w.alloc o).heap[k]? = some ob := keep_rowB ((Ext.refl w).alloc o) h
set_option maxHeartbeats 3000000 in
theorem chawake_of (w : World) : Calls Try.prog 13 #[] w fun e w' => e = .returned (.bool true) ∧ Ext w w' := by
  have htX : ∀ V, Calls Try.prog 29 #[.int .u8 2, .int .i64 1, .int .i64 0, .int .i64 7] V fun e w' => e = .returned (.agg #[.int .i64 0, .int .u8 2, .int .i64 1, .int .i64 0, .int .u8 2, .int .i64 0, .int .i64 7, .int .u8 0, .string ⟨#[]⟩, .string ⟨#[]⟩, .string ⟨#[]⟩]) ∧ Ext V w' := fun V => told_of 2 1 0 7 V
  have htY : ∀ V, Calls Try.prog 29 #[.int .u8 2, .int .i64 2, .int .i64 1, .int .i64 8] V fun e w' => e = .returned (.agg #[.int .i64 0, .int .u8 2, .int .i64 2, .int .i64 1, .int .u8 2, .int .i64 0, .int .i64 8, .int .u8 0, .string ⟨#[]⟩, .string ⟨#[]⟩, .string ⟨#[]⟩]) ∧ Ext V w' := fun V => told_of 2 2 1 8 V
  have htL : ∀ V, Calls Try.prog 29 #[.int .u8 3, .int .i64 2, .int .i64 1, .int .i64 0] V fun e w' => e = .returned (.agg #[.int .i64 0, .int .u8 3, .int .i64 2, .int .i64 1, .int .u8 0, .int .i64 0, .int .i64 0, .int .u8 0, .string ⟨#[]⟩, .string ⟨#[]⟩, .string ⟨#[]⟩]) ∧ Ext V w' := fun V => told_of 3 2 1 0 V
  have hbad0 : decR 3 [⟨0, 1, 0, 0, { k := 0, sq := 0 }⟩, ⟨0, 1, 0, 0, { k := 0, sq := 0 }⟩] = (0, {}) ∧ decE 3 [⟨0, 1, 0, 0, { k := 0, sq := 0 }⟩, ⟨0, 1, 0, 0, { k := 0, sq := 0 }⟩] = 2 := ⟨by kernel_rfl, by kernel_rfl⟩
  have hbad1 : decR 3 [⟨0, 1, 0, 0, { k := 0, sq := 0 }⟩, ⟨0, 1, 0, 0, { k := 0, sq := 0 }⟩, ⟨0, 5, 0, 0, { k := 0, sq := 0 }⟩] = (0, {}) ∧ decE 3 [⟨0, 1, 0, 0, { k := 0, sq := 0 }⟩, ⟨0, 1, 0, 0, { k := 0, sq := 0 }⟩, ⟨0, 5, 0, 0, { k := 0, sq := 0 }⟩] = 2 := ⟨by kernel_rfl, by kernel_rfl⟩
  have HTX := Lib.hid htX
  have HTY := Lib.hid htY
  have HTL := Lib.hid htL
  clear htX htY htL
  have hn : ∀ o1 o2 o3 : Obj, (((w.alloc o1).alloc o2).alloc o3).heap[w.heap.size]? = some o1 ∧ (((w.alloc o1).alloc o2).alloc o3).heap[w.heap.size + 1]? = some o2 ∧ (((w.alloc o1).alloc o2).alloc o3).heap[w.heap.size + 2]? = some o3 := fun o1 o2 o3 => ⟨keep_new (keep_new (heap_alloc_new w o1)), keep_new (heap_new_at (by simp)), heap_new_at (by simp)⟩
  have hrow := hn (.cells #[.int .i64 0, .int .u8 0, .int .i64 0, .int .i64 0, .int .u8 0, .int .i64 0, .int .i64 0, .int .u8 0, .string ⟨#[]⟩, .string ⟨#[]⟩, .string ⟨#[]⟩] 54) (.cells #[.int .i64 0, .int .u8 1, .int .i64 0, .int .i64 0, .int .u8 0, .int .i64 0, .int .i64 0, .int .u8 0, .string ⟨#[]⟩, .string ⟨#[]⟩, .string ⟨#[]⟩] 54) (.cells #[.int .i64 0, .int .u8 4, .int .i64 0, .int .i64 0, .int .u8 0, .int .i64 0, .int .i64 0, .int .u8 0, .string ⟨#[]⟩, .string ⟨#[]⟩, .string ⟨#[]⟩] 54)
  have hxt := (((Ext.refl w).alloc (.cells #[.int .i64 0, .int .u8 0, .int .i64 0, .int .i64 0, .int .u8 0, .int .i64 0, .int .i64 0, .int .u8 0, .string ⟨#[]⟩, .string ⟨#[]⟩, .string ⟨#[]⟩] 54)).alloc (.cells #[.int .i64 0, .int .u8 1, .int .i64 0, .int .i64 0, .int .u8 0, .int .i64 0, .int .i64 0, .int .u8 0, .string ⟨#[]⟩, .string ⟨#[]⟩, .string ⟨#[]⟩] 54)).alloc (.cells #[.int .i64 0, .int .u8 4, .int .i64 0, .int .i64 0, .int .u8 0, .int .i64 0, .int .i64 0, .int .u8 0, .string ⟨#[]⟩, .string ⟨#[]⟩, .string ⟨#[]⟩] 54)
  have HROW := Lib.hid (And.intro hxt hrow)
  clear hn hrow hxt
  go_enter Try.func13, Try.ntmps13
  go_upto_region 2 with (fail)
  generalize ((w.alloc (.cells #[.int .i64 0, .int .u8 0, .int .i64 0, .int .i64 0, .int .u8 0, .int .i64 0, .int .i64 0, .int .u8 0, .string ⟨#[]⟩, .string ⟨#[]⟩, .string ⟨#[]⟩] 54)).alloc (.cells #[.int .i64 0, .int .u8 1, .int .i64 0, .int .i64 0, .int .u8 0, .int .i64 0, .int .i64 0, .int .u8 0, .string ⟨#[]⟩, .string ⟨#[]⟩, .string ⟨#[]⟩] 54)).alloc (.cells #[.int .i64 0, .int .u8 4, .int .i64 0, .int .i64 0, .int .u8 0, .int .i64 0, .int .i64 0, .int .u8 0, .string ⟨#[]⟩, .string ⟨#[]⟩, .string ⟨#[]⟩] 54) = W0 at *
  obtain ⟨g, hg⟩ : ∃ g, w.heap.size = g := ⟨_, rfl⟩
  rw [hg] at HROW ⊢
  clear hg
  go_wp2_with fail
  refine (HTX.out _).mono ?_
  rintro _ w1 ⟨rfl, hx1⟩
  go_wp2_with fail
  refine (HTY.out _).mono ?_
  rintro _ w2 ⟨rfl, hx2⟩
  go_wp2_with fail
  refine (HTL.out _).mono ?_
  rintro _ w3 ⟨rfl, hx3⟩
  have hx := hx1.trans (hx2.trans hx3)
  have hr3 := And.intro (HROW.out.1.trans hx) (And.intro (keep_rowB hx HROW.out.2.1) (And.intro (keep_rowB hx HROW.out.2.2.1) (keep_rowB hx HROW.out.2.2.2)))
  have hn : ∀ o1 o2 o3 : Obj, (((w3.alloc o1).alloc o2).alloc o3).heap[w3.heap.size]? = some o1 ∧ (((w3.alloc o1).alloc o2).alloc o3).heap[w3.heap.size + 1]? = some o2 ∧ (((w3.alloc o1).alloc o2).alloc o3).heap[w3.heap.size + 2]? = some o3 := fun o1 o2 o3 => ⟨keep_new (keep_new (heap_alloc_new w3 o1)), keep_new (heap_new_at (by simp)), heap_new_at (by simp)⟩
  have hrow := hn (.cells #[.int .i64 0, .int .u8 2, .int .i64 1, .int .i64 0, .int .u8 2, .int .i64 0, .int .i64 7, .int .u8 0, .string ⟨#[]⟩, .string ⟨#[]⟩, .string ⟨#[]⟩] 54) (.cells #[.int .i64 0, .int .u8 2, .int .i64 2, .int .i64 1, .int .u8 2, .int .i64 0, .int .i64 8, .int .u8 0, .string ⟨#[]⟩, .string ⟨#[]⟩, .string ⟨#[]⟩] 54) (.cells #[.int .i64 0, .int .u8 3, .int .i64 2, .int .i64 1, .int .u8 0, .int .i64 0, .int .i64 0, .int .u8 0, .string ⟨#[]⟩, .string ⟨#[]⟩, .string ⟨#[]⟩] 54)
  have hxt := (((Ext.refl w3).alloc (.cells #[.int .i64 0, .int .u8 2, .int .i64 1, .int .i64 0, .int .u8 2, .int .i64 0, .int .i64 7, .int .u8 0, .string ⟨#[]⟩, .string ⟨#[]⟩, .string ⟨#[]⟩] 54)).alloc (.cells #[.int .i64 0, .int .u8 2, .int .i64 2, .int .i64 1, .int .u8 2, .int .i64 0, .int .i64 8, .int .u8 0, .string ⟨#[]⟩, .string ⟨#[]⟩, .string ⟨#[]⟩] 54)).alloc (.cells #[.int .i64 0, .int .u8 3, .int .i64 2, .int .i64 1, .int .u8 0, .int .i64 0, .int .i64 0, .int .u8 0, .string ⟨#[]⟩, .string ⟨#[]⟩, .string ⟨#[]⟩] 54)
  have HS : Hid (Six ((((w3.alloc (.cells #[.int .i64 0, .int .u8 2, .int .i64 1, .int .i64 0, .int .u8 2, .int .i64 0, .int .i64 7, .int .u8 0, .string ⟨#[]⟩, .string ⟨#[]⟩, .string ⟨#[]⟩] 54)).alloc (.cells #[.int .i64 0, .int .u8 2, .int .i64 2, .int .i64 1, .int .u8 2, .int .i64 0, .int .i64 8, .int .u8 0, .string ⟨#[]⟩, .string ⟨#[]⟩, .string ⟨#[]⟩] 54)).alloc (.cells #[.int .i64 0, .int .u8 3, .int .i64 2, .int .i64 1, .int .u8 0, .int .i64 0, .int .i64 0, .int .u8 0, .string ⟨#[]⟩, .string ⟨#[]⟩, .string ⟨#[]⟩] 54))) g w3.heap.size) := Lib.hid ⟨keep_rowB hxt hr3.2.1, keep_rowB hxt hr3.2.2.1, keep_rowB hxt hr3.2.2.2, hrow.1, hrow.2.1, hrow.2.2⟩
  have HX := Lib.hid (hr3.1.trans hxt)
  clear hn hrow hxt hr3 hx hx1 hx2 hx3 HROW
  go_upto_region 3 with (fail)
  generalize ((w3.alloc (.cells #[.int .i64 0, .int .u8 2, .int .i64 1, .int .i64 0, .int .u8 2, .int .i64 0, .int .i64 7, .int .u8 0, .string ⟨#[]⟩, .string ⟨#[]⟩, .string ⟨#[]⟩] 54)).alloc (.cells #[.int .i64 0, .int .u8 2, .int .i64 2, .int .i64 1, .int .u8 2, .int .i64 0, .int .i64 8, .int .u8 0, .string ⟨#[]⟩, .string ⟨#[]⟩, .string ⟨#[]⟩] 54)).alloc (.cells #[.int .i64 0, .int .u8 3, .int .i64 2, .int .i64 1, .int .u8 0, .int .i64 0, .int .i64 0, .int .u8 0, .string ⟨#[]⟩, .string ⟨#[]⟩, .string ⟨#[]⟩] 54) = V at *
  generalize w3.heap.size = h at *
  obtain ⟨cA0, cA1, cA2, cA3, cA4, cA5, cA6, cA7, cA8, cA9, cA10⟩ := rowR11 HS.out.2.1
  go_wp2_with fail
  refine (decide_of 3 _ 2 2 [⟨0, 1, 0, 0, { k := 0, sq := 0 }⟩, ⟨0, 1, 0, 0, { k := 0, sq := 0 }⟩] _ (ls_flat (t := 54) (cs := (rptC ⟨0, 1, 0, 0, { k := 0, sq := 0 }⟩ ++ (rptC ⟨0, 1, 0, 0, { k := 0, sq := 0 }⟩ ++ [])).toArray) rfl (by omega) rfl (heap_new_at ?hb0))).mono ?_
  case hb0 => simp
  rintro _ V ⟨rfl, hx⟩
  rw [hbad0.1, hbad0.2]
  have hx := ((Ext.refl _).alloc _).trans hx
  have HS1 := Lib.hid (Six.ext hx HS.out)
  have HX1 := Lib.hid (HX.out.trans hx)
  clear hx HS HX cA0 cA1 cA2 cA3 cA4 cA5 cA6 cA7 cA8 cA9 cA10
  dsimp only
  go_upto_region 4 with (fail)
  have hx := (Ext.refl V).alloc (.cells #[.int .u8 0, .int .i64 0, .int .i64 0, .int .u8 0, .string ByteArray.empty, .string ByteArray.empty, .string ByteArray.empty] 27)
  have HS := Lib.hid (Six.ext hx HS1.out)
  have HX := Lib.hid (HX1.out.trans hx)
  generalize (V.alloc (.cells #[.int .u8 0, .int .i64 0, .int .i64 0, .int .u8 0, .string ByteArray.empty, .string ByteArray.empty, .string ByteArray.empty] 27)) = W0 at *
  clear hx HS1 HX1
  obtain ⟨cA0, cA1, cA2, cA3, cA4, cA5, cA6, cA7, cA8, cA9, cA10⟩ := rowR11 HS.out.2.1
  go_wp2_with fail
  refine (decide_of 3 _ 3 3 [⟨0, 1, 0, 0, { k := 0, sq := 0 }⟩, ⟨0, 1, 0, 0, { k := 0, sq := 0 }⟩, ⟨0, 5, 0, 0, { k := 0, sq := 0 }⟩] _ (ls_flat (t := 54) (cs := (rptC ⟨0, 1, 0, 0, { k := 0, sq := 0 }⟩ ++ (rptC ⟨0, 1, 0, 0, { k := 0, sq := 0 }⟩ ++ (rptC ⟨0, 5, 0, 0, { k := 0, sq := 0 }⟩ ++ []))).toArray) rfl (by omega) rfl (heap_new_at ?hb1))).mono ?_
  case hb1 => simp
  rintro _ V ⟨rfl, hx⟩
  rw [hbad1.1, hbad1.2]
  have hx := ((Ext.refl _).alloc _).trans hx
  have HS1 := Lib.hid (Six.ext hx HS.out)
  have HX1 := Lib.hid (HX.out.trans hx)
  clear hx HS HX cA0 cA1 cA2 cA3 cA4 cA5 cA6 cA7 cA8 cA9 cA10
  dsimp only
  go_upto_region 5 with (fail)
  have hx := (Ext.refl V).alloc (.cells #[.int .u8 0, .int .i64 0, .int .i64 0, .int .u8 0, .string ByteArray.empty, .string ByteArray.empty, .string ByteArray.empty] 27)
  have HS := Lib.hid (Six.ext hx HS1.out)
  have HX := Lib.hid (HX1.out.trans hx)
  generalize (V.alloc (.cells #[.int .u8 0, .int .i64 0, .int .i64 0, .int .u8 0, .string ByteArray.empty, .string ByteArray.empty, .string ByteArray.empty] 27)) = W1 at *
  clear hx HS1 HX1
  obtain ⟨cA0, cA1, cA2, cA3, cA4, cA5, cA6, cA7, cA8, cA9, cA10⟩ := rowR11 HS.out.2.1
  obtain ⟨cN0, cN1, cN2, cN3, cN4, cN5, cN6, cN7, cN8, cN9, cN10⟩ := rowR11 HS.out.1
  go_wp2_with fail
  refine (decides_of ⟨0, 1, 0, 0, { k := 0, sq := 0 }⟩ ⟨0, 1, 0, 0, { k := 0, sq := 0 }⟩ ⟨0, 0, 0, 0, { k := 0, sq := 0 }⟩ 1 0 _ (by decide) (by kernel_rfl) (by kernel_rfl)).mono ?_
  rintro _ V0 ⟨rfl, hx⟩
  have HS1 := Lib.hid (Six.ext hx HS.out)
  have HX1 := Lib.hid (HX.out.trans hx)
  clear hx HS HX cA0 cA1 cA2 cA3 cA4 cA5 cA6 cA7 cA8 cA9 cA10 cN0 cN1 cN2 cN3 cN4 cN5 cN6 cN7 cN8 cN9 cN10
  have HS := HS1
  have HX := HX1
  clear HS1 HX1
  obtain ⟨cA0, cA1, cA2, cA3, cA4, cA5, cA6, cA7, cA8, cA9, cA10⟩ := rowR11 HS.out.2.1
  obtain ⟨cN0, cN1, cN2, cN3, cN4, cN5, cN6, cN7, cN8, cN9, cN10⟩ := rowR11 HS.out.1
  go_wp2_with fail
  refine (decides_of ⟨0, 1, 0, 0, { k := 0, sq := 0 }⟩ ⟨0, 0, 0, 0, { k := 0, sq := 0 }⟩ ⟨0, 0, 0, 0, { k := 0, sq := 0 }⟩ 0 0 _ (by decide) (by kernel_rfl) (by kernel_rfl)).mono ?_
  rintro _ V1 ⟨rfl, hx⟩
  have HS1 := Lib.hid (Six.ext hx HS.out)
  have HX1 := Lib.hid (HX.out.trans hx)
  clear hx HS HX cA0 cA1 cA2 cA3 cA4 cA5 cA6 cA7 cA8 cA9 cA10 cN0 cN1 cN2 cN3 cN4 cN5 cN6 cN7 cN8 cN9 cN10
  have HS := HS1
  have HX := HX1
  clear HS1 HX1
  obtain ⟨cX0, cX1, cX2, cX3, cX4, cX5, cX6, cX7, cX8, cX9, cX10⟩ := rowR11 HS.out.2.2.2.1
  obtain ⟨cA0, cA1, cA2, cA3, cA4, cA5, cA6, cA7, cA8, cA9, cA10⟩ := rowR11 HS.out.2.1
  obtain ⟨cN0, cN1, cN2, cN3, cN4, cN5, cN6, cN7, cN8, cN9, cN10⟩ := rowR11 HS.out.1
  go_wp2_with fail
  refine (decides_of ⟨0, 2, 1, 0, { k := 2, sq := 7 }⟩ ⟨0, 1, 0, 0, { k := 0, sq := 0 }⟩ ⟨0, 0, 0, 0, { k := 0, sq := 0 }⟩ 2 7 _ (by decide) (by kernel_rfl) (by kernel_rfl)).mono ?_
  rintro _ V2 ⟨rfl, hx⟩
  have HS1 := Lib.hid (Six.ext hx HS.out)
  have HX1 := Lib.hid (HX.out.trans hx)
  clear hx HS HX cX0 cX1 cX2 cX3 cX4 cX5 cX6 cX7 cX8 cX9 cX10 cA0 cA1 cA2 cA3 cA4 cA5 cA6 cA7 cA8 cA9 cA10 cN0 cN1 cN2 cN3 cN4 cN5 cN6 cN7 cN8 cN9 cN10
  have HS := HS1
  have HX := HX1
  clear HS1 HX1
  obtain ⟨cX0, cX1, cX2, cX3, cX4, cX5, cX6, cX7, cX8, cX9, cX10⟩ := rowR11 HS.out.2.2.2.1
  obtain ⟨cY0, cY1, cY2, cY3, cY4, cY5, cY6, cY7, cY8, cY9, cY10⟩ := rowR11 HS.out.2.2.2.2.1
  obtain ⟨cN0, cN1, cN2, cN3, cN4, cN5, cN6, cN7, cN8, cN9, cN10⟩ := rowR11 HS.out.1
  go_wp2_with fail
  refine (decides_of ⟨0, 2, 1, 0, { k := 2, sq := 7 }⟩ ⟨0, 2, 2, 1, { k := 2, sq := 8 }⟩ ⟨0, 0, 0, 0, { k := 0, sq := 0 }⟩ 2 8 _ (by decide) (by kernel_rfl) (by kernel_rfl)).mono ?_
  rintro _ V3 ⟨rfl, hx⟩
  have HS1 := Lib.hid (Six.ext hx HS.out)
  have HX1 := Lib.hid (HX.out.trans hx)
  clear hx HS HX cX0 cX1 cX2 cX3 cX4 cX5 cX6 cX7 cX8 cX9 cX10 cY0 cY1 cY2 cY3 cY4 cY5 cY6 cY7 cY8 cY9 cY10 cN0 cN1 cN2 cN3 cN4 cN5 cN6 cN7 cN8 cN9 cN10
  have HS := HS1
  have HX := HX1
  clear HS1 HX1
  obtain ⟨cL0, cL1, cL2, cL3, cL4, cL5, cL6, cL7, cL8, cL9, cL10⟩ := rowR11 HS.out.2.2.2.2.2
  obtain ⟨cA0, cA1, cA2, cA3, cA4, cA5, cA6, cA7, cA8, cA9, cA10⟩ := rowR11 HS.out.2.1
  obtain ⟨cN0, cN1, cN2, cN3, cN4, cN5, cN6, cN7, cN8, cN9, cN10⟩ := rowR11 HS.out.1
  go_wp2_with fail
  refine (decides_of ⟨0, 3, 2, 1, { k := 0, sq := 0 }⟩ ⟨0, 1, 0, 0, { k := 0, sq := 0 }⟩ ⟨0, 0, 0, 0, { k := 0, sq := 0 }⟩ 0 0 _ (by decide) (by kernel_rfl) (by kernel_rfl)).mono ?_
  rintro _ V4 ⟨rfl, hx⟩
  have HS1 := Lib.hid (Six.ext hx HS.out)
  have HX1 := Lib.hid (HX.out.trans hx)
  clear hx HS HX cL0 cL1 cL2 cL3 cL4 cL5 cL6 cL7 cL8 cL9 cL10 cA0 cA1 cA2 cA3 cA4 cA5 cA6 cA7 cA8 cA9 cA10 cN0 cN1 cN2 cN3 cN4 cN5 cN6 cN7 cN8 cN9 cN10
  have HS := HS1
  have HX := HX1
  clear HS1 HX1
  obtain ⟨cL0, cL1, cL2, cL3, cL4, cL5, cL6, cL7, cL8, cL9, cL10⟩ := rowR11 HS.out.2.2.2.2.2
  obtain ⟨cA0, cA1, cA2, cA3, cA4, cA5, cA6, cA7, cA8, cA9, cA10⟩ := rowR11 HS.out.2.1
  go_wp2_with fail
  refine (decides_of ⟨0, 3, 2, 1, { k := 0, sq := 0 }⟩ ⟨0, 1, 0, 0, { k := 0, sq := 0 }⟩ ⟨0, 1, 0, 0, { k := 0, sq := 0 }⟩ 1 0 _ (by decide) (by kernel_rfl) (by kernel_rfl)).mono ?_
  rintro _ V5 ⟨rfl, hx⟩
  have HS1 := Lib.hid (Six.ext hx HS.out)
  have HX1 := Lib.hid (HX.out.trans hx)
  clear hx HS HX cL0 cL1 cL2 cL3 cL4 cL5 cL6 cL7 cL8 cL9 cL10 cA0 cA1 cA2 cA3 cA4 cA5 cA6 cA7 cA8 cA9 cA10
  have HS := HS1
  have HX := HX1
  clear HS1 HX1
  obtain ⟨cL0, cL1, cL2, cL3, cL4, cL5, cL6, cL7, cL8, cL9, cL10⟩ := rowR11 HS.out.2.2.2.2.2
  obtain ⟨cX0, cX1, cX2, cX3, cX4, cX5, cX6, cX7, cX8, cX9, cX10⟩ := rowR11 HS.out.2.2.2.1
  obtain ⟨cA0, cA1, cA2, cA3, cA4, cA5, cA6, cA7, cA8, cA9, cA10⟩ := rowR11 HS.out.2.1
  go_wp2_with fail
  refine (decides_of ⟨0, 3, 2, 1, { k := 0, sq := 0 }⟩ ⟨0, 2, 1, 0, { k := 2, sq := 7 }⟩ ⟨0, 1, 0, 0, { k := 0, sq := 0 }⟩ 2 7 _ (by decide) (by kernel_rfl) (by kernel_rfl)).mono ?_
  rintro _ V6 ⟨rfl, hx⟩
  have HS1 := Lib.hid (Six.ext hx HS.out)
  have HX1 := Lib.hid (HX.out.trans hx)
  clear hx HS HX cL0 cL1 cL2 cL3 cL4 cL5 cL6 cL7 cL8 cL9 cL10 cX0 cX1 cX2 cX3 cX4 cX5 cX6 cX7 cX8 cX9 cX10 cA0 cA1 cA2 cA3 cA4 cA5 cA6 cA7 cA8 cA9 cA10
  have HS := HS1
  have HX := HX1
  clear HS1 HX1
  obtain ⟨cL0, cL1, cL2, cL3, cL4, cL5, cL6, cL7, cL8, cL9, cL10⟩ := rowR11 HS.out.2.2.2.2.2
  obtain ⟨cX0, cX1, cX2, cX3, cX4, cX5, cX6, cX7, cX8, cX9, cX10⟩ := rowR11 HS.out.2.2.2.1
  obtain ⟨cN0, cN1, cN2, cN3, cN4, cN5, cN6, cN7, cN8, cN9, cN10⟩ := rowR11 HS.out.1
  go_wp2_with fail
  refine (decides_of ⟨0, 3, 2, 1, { k := 0, sq := 0 }⟩ ⟨0, 2, 1, 0, { k := 2, sq := 7 }⟩ ⟨0, 0, 0, 0, { k := 0, sq := 0 }⟩ 0 0 _ (by decide) (by kernel_rfl) (by kernel_rfl)).mono ?_
  rintro _ V7 ⟨rfl, hx⟩
  have HS1 := Lib.hid (Six.ext hx HS.out)
  have HX1 := Lib.hid (HX.out.trans hx)
  clear hx HS HX cL0 cL1 cL2 cL3 cL4 cL5 cL6 cL7 cL8 cL9 cL10 cX0 cX1 cX2 cX3 cX4 cX5 cX6 cX7 cX8 cX9 cX10 cN0 cN1 cN2 cN3 cN4 cN5 cN6 cN7 cN8 cN9 cN10
  have HS := HS1
  have HX := HX1
  clear HS1 HX1
  obtain ⟨cB0, cB1, cB2, cB3, cB4, cB5, cB6, cB7, cB8, cB9, cB10⟩ := rowR11 HS.out.2.2.1
  obtain ⟨cX0, cX1, cX2, cX3, cX4, cX5, cX6, cX7, cX8, cX9, cX10⟩ := rowR11 HS.out.2.2.2.1
  obtain ⟨cN0, cN1, cN2, cN3, cN4, cN5, cN6, cN7, cN8, cN9, cN10⟩ := rowR11 HS.out.1
  go_wp2_with fail
  refine (decides_of ⟨0, 4, 0, 0, { k := 0, sq := 0 }⟩ ⟨0, 2, 1, 0, { k := 2, sq := 7 }⟩ ⟨0, 0, 0, 0, { k := 0, sq := 0 }⟩ 0 0 _ (by decide) (by kernel_rfl) (by kernel_rfl)).mono ?_
  rintro _ V8 ⟨rfl, hx⟩
  have HS1 := Lib.hid (Six.ext hx HS.out)
  have HX1 := Lib.hid (HX.out.trans hx)
  clear hx HS HX cB0 cB1 cB2 cB3 cB4 cB5 cB6 cB7 cB8 cB9 cB10 cX0 cX1 cX2 cX3 cX4 cX5 cX6 cX7 cX8 cX9 cX10 cN0 cN1 cN2 cN3 cN4 cN5 cN6 cN7 cN8 cN9 cN10
  have HS := HS1
  have HX := HX1
  clear HS1 HX1
  obtain ⟨cL0, cL1, cL2, cL3, cL4, cL5, cL6, cL7, cL8, cL9, cL10⟩ := rowR11 HS.out.2.2.2.2.2
  obtain ⟨cX0, cX1, cX2, cX3, cX4, cX5, cX6, cX7, cX8, cX9, cX10⟩ := rowR11 HS.out.2.2.2.1
  go_wp2_with fail
  refine (decides_of ⟨0, 3, 2, 1, { k := 0, sq := 0 }⟩ ⟨0, 3, 2, 1, { k := 0, sq := 0 }⟩ ⟨0, 2, 1, 0, { k := 2, sq := 7 }⟩ 2 7 _ (by decide) (by kernel_rfl) (by kernel_rfl)).mono ?_
  rintro _ V9 ⟨rfl, hx⟩
  have HS1 := Lib.hid (Six.ext hx HS.out)
  have HX1 := Lib.hid (HX.out.trans hx)
  clear hx HS HX cL0 cL1 cL2 cL3 cL4 cL5 cL6 cL7 cL8 cL9 cL10 cX0 cX1 cX2 cX3 cX4 cX5 cX6 cX7 cX8 cX9 cX10
  have HS := HS1
  have HX := HX1
  clear HS1 HX1
  obtain ⟨cB0, cB1, cB2, cB3, cB4, cB5, cB6, cB7, cB8, cB9, cB10⟩ := rowR11 HS.out.2.2.1
  obtain ⟨cA0, cA1, cA2, cA3, cA4, cA5, cA6, cA7, cA8, cA9, cA10⟩ := rowR11 HS.out.2.1
  go_wp2_with fail
  refine (decides_of ⟨0, 4, 0, 0, { k := 0, sq := 0 }⟩ ⟨0, 4, 0, 0, { k := 0, sq := 0 }⟩ ⟨0, 1, 0, 0, { k := 0, sq := 0 }⟩ 1 0 _ (by decide) (by kernel_rfl) (by kernel_rfl)).mono ?_
  rintro _ V10 ⟨rfl, hx⟩
  have HS1 := Lib.hid (Six.ext hx HS.out)
  have HX1 := Lib.hid (HX.out.trans hx)
  clear hx HS HX cB0 cB1 cB2 cB3 cB4 cB5 cB6 cB7 cB8 cB9 cB10 cA0 cA1 cA2 cA3 cA4 cA5 cA6 cA7 cA8 cA9 cA10
  have HS := HS1
  have HX := HX1
  clear HS1 HX1
  obtain ⟨cB0, cB1, cB2, cB3, cB4, cB5, cB6, cB7, cB8, cB9, cB10⟩ := rowR11 HS.out.2.2.1
  obtain ⟨cX0, cX1, cX2, cX3, cX4, cX5, cX6, cX7, cX8, cX9, cX10⟩ := rowR11 HS.out.2.2.2.1
  obtain ⟨cA0, cA1, cA2, cA3, cA4, cA5, cA6, cA7, cA8, cA9, cA10⟩ := rowR11 HS.out.2.1
  go_wp2_with fail
  refine (decides_of ⟨0, 4, 0, 0, { k := 0, sq := 0 }⟩ ⟨0, 2, 1, 0, { k := 2, sq := 7 }⟩ ⟨0, 1, 0, 0, { k := 0, sq := 0 }⟩ 2 7 _ (by decide) (by kernel_rfl) (by kernel_rfl)).mono ?_
  rintro _ V11 ⟨rfl, hx⟩
  have HS1 := Lib.hid (Six.ext hx HS.out)
  have HX1 := Lib.hid (HX.out.trans hx)
  clear hx HS HX cB0 cB1 cB2 cB3 cB4 cB5 cB6 cB7 cB8 cB9 cB10 cX0 cX1 cX2 cX3 cX4 cX5 cX6 cX7 cX8 cX9 cX10 cA0 cA1 cA2 cA3 cA4 cA5 cA6 cA7 cA8 cA9 cA10
  have HS := HS1
  have HX := HX1
  clear HS1 HX1
  go_wp2_with fail
  go_ret
  exact ⟨rfl, HX.out⟩
end
end Go.Proofs.Ytinflpheogglhaa

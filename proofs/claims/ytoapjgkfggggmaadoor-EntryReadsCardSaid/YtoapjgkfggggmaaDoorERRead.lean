/-
  The contracts of the document's Read and Parse of entries.
-/
import Derived.Test.YtoapjgkfggggmaaDoorERBytes
import Derived.Test.YtoapjgkfggggmaaDoorERead
import Derived.Deep.DeepCutAuto
namespace Go.Proofs.YtoapjgkfggggmaaDoor
open Go Go.RowKit

theorem by_at {w : World} {A : Option Addr} {n c k : Nat} {l : List Nat} (h : By w A n c l) (hk : k < n) : ∃ g o x, A = some ⟨g, o, none⟩ ∧ l[k]? = some x ∧ x < 256 ∧ w.cell? ⟨g, o + k, none⟩ = some (.int .u8 ((x : Nat) : Int)) := by
  obtain ⟨g, o, x, h1, _, h2, h3, h4⟩ := h.rd.at_ (k := k) (by rw [h.len]; exact hk)
  exact ⟨g, o, x, h1, h2, h3, h4⟩
theorem by_cell {w : World} {g o n c k x : Nat} {l : List Nat} (h : By w (some ⟨g, o, none⟩) n c l) (hk : l[k]? = some x) : w.cell? ⟨g, o + k, none⟩ = some (.int .u8 ((x : Nat) : Int)) ∧ x < 256 := by
  obtain ⟨g', o', x', h1, _, h2, h3, h4⟩ := h.rd.at_ (k := k) (List.getElem?_eq_some_iff.1 hk).1
  rw [hk] at h2
  injection h2 with h2
  subst h2
  injection h1 with h1
  injection h1 with h1 h5
  subst h1 h5
  exact ⟨h4, h3⟩
theorem rdtext_no {A : Option Addr} {n c a : Nat} {l : List Nat} {w : World} (hb : By w A n c l) (hn : n ≤ 9000000000000000000) (ha : a ≤ l.length) (h : rdT l a = none) (ai : Int) (hai : ai = (a : Int)) :
    Calls Tryd.prog 37 #[.slice A n c, .int .i64 ai] w fun e w' => (∃ s, e = .returned (.tuple #[.string s, .int .i64 0, .int .i64 10])) ∧ w' = w := by
  subst hai
  refine (rread_any A l n c _ a w hb.len hb.cap hb.rd hn).mono ?_
  rw [readS_none ha h]
  rintro e w' ⟨rfl, rfl⟩
  exact ⟨⟨_, rfl⟩, rfl⟩
theorem rdtext_yes {A : Option Addr} {n c a b : Nat} {s : ByteArray} {l : List Nat} {w : World} (hb : By w A n c l) (hn : n ≤ 9000000000000000000) (ha : a ≤ l.length) (h : rdT l a = some (s, b)) (ai : Int) (hai : ai = (a : Int)) :
    Calls Tryd.prog 37 #[.slice A n c, .int .i64 ai] w fun e w' => e = .returned (.tuple #[.string s, .int .i64 (b : Int), .int .i64 0]) ∧ w' = w := by
  subst hai
  refine (rread_any A l n c _ a w hb.len hb.cap hb.rd hn).mono ?_
  obtain ⟨h1, h2, h3⟩ := readS_some ha h
  rw [h1, h2, h3]
  rintro e w' ⟨rfl, rfl⟩
  exact ⟨rfl, rfl⟩
theorem rdT_le {l : List Nat} {a b : Nat} {s : ByteArray} (ha : a ≤ l.length) (h : rdT l a = some (s, b)) : b ≤ l.length := by
  obtain ⟨n, _, h2, _, h4⟩ := rdT_inv ha h
  omega
/-- What holds while the document reads an entry: blocks of the call's own. -/
structure RRd (w : World) (A : Option Addr) (n c : Nat) (l : List Nat) (g : Nat) (cs ss : Array Value) (w' : World) : Prop where
  by_ : By w' A n c l
  res : w'.heap[g]? = some (.cells #[.int .u8 0, .int .i64 0, .int .i64 0, .int .u8 0, .string ⟨#[]⟩, .string ⟨#[]⟩, .string ⟨#[]⟩] 27 (0, 0))
  own : w'.heap[g + 1]? = some (.cells cs 27 (0, 0))
  txt : w'.heap[g + 2]? = some (.cells ss 78 (0, 0))
  ext : Ext w w'
  ge : w.heap.size ≤ g
  off : 0 < n → ∀ p, A = some p → p.block < g
section
variable {w w' w2 : World} {n c g : Nat} {A : Option Addr} {l : List Nat} {cs ss : Array Value}
theorem RRd.ext2 (h : RRd w A n c l g cs ss w') (k : Ext w' w2) : RRd w A n c l g cs ss w2 := ⟨h.by_.ext k, heap_ext h.res k, heap_ext h.own k, heap_ext h.txt k, h.ext.trans k, h.ge, h.off⟩
theorem RRd.putO (h : RRd w A n c l g cs ss w') (i : Nat) (v : Value) {ds : Array Value} (hd : ds = cs.setIfInBounds i v) : RRd w A n c l g ds ss (w'.setCell ⟨g + 1, i, none⟩ v) :=
  ⟨by_mod h.by_ (mod_set (g + 1) i v) fun hn p hp hh => by have := h.off hn p hp; omega, heap_mod h.res (mod_set (g + 1) i v) (by omega), hd ▸ rdr_set h.own v, heap_mod h.txt (mod_set (g + 1) i v) (by omega), h.ext.setCell (p := ⟨g + 1, i, none⟩) (by have := h.ge; dsimp only; omega) v, h.ge, h.off⟩
theorem RRd.putT (h : RRd w A n c l g cs ss w') (i : Nat) (v : Value) {ds : Array Value} (hd : ds = ss.setIfInBounds i v) : RRd w A n c l g cs ds (w'.setCell ⟨g + 2, i, none⟩ v) :=
  ⟨by_mod h.by_ (mod_set (g + 2) i v) fun hn p hp hh => by have := h.off hn p hp; omega, heap_mod h.res (mod_set (g + 2) i v) (by omega), heap_mod h.own (mod_set (g + 2) i v) (by omega), hd ▸ rdr_set h.txt v, h.ext.setCell (p := ⟨g + 2, i, none⟩) (by have := h.ge; dsimp only; omega) v, h.ge, h.off⟩
end
theorem three_free {w : World} {g : Nat} {x0 x1 x2 : Value} {t : TypeId} (h : w.heap[g]? = some (.cells #[x0, x1, x2] t (0, 0))) :
    (w.cell? ⟨g, 0, none⟩ = some x0 ∧ w.cell? ⟨g, 1, none⟩ = some x1 ∧ w.cell? ⟨g, 2, none⟩ = some x2) ∧ (w.frozen? ⟨g, 0, none⟩ = false ∧ w.frozen? ⟨g, 1, none⟩ = false ∧ w.frozen? ⟨g, 2, none⟩ = false) :=
  ⟨three_cellsE h, frozen_of_row w g 0 _ _ h, frozen_of_row w g 1 _ _ h, frozen_of_row w g 2 _ _ h⟩
set_option maxRecDepth 100000 in
set_option maxHeartbeats 1600000 in
theorem rread_op (g' o n c k : Nat) (l : List Nat) (w : World) (hb : By w (some ⟨g', o, none⟩) n c l) (hn : n ≤ 9000000000000000000) (h2 : l[k]? = some 2) (h9 : k + 9 ≤ n) :
    Calls Tryd.prog 21 #[.slice (some ⟨g', o, none⟩) n c, .int .i64 (k : Int)] w fun e w' => e = .returned (.tuple #[.agg #[.int .u8 ((rdE l k).1.k : Int), .int .i64 (rdE l k).1.cl, .int .i64 (rdE l k).1.sq, .int .u8 ((rdE l k).1.ok : Int), .string (rdE l k).1.key, .string (rdE l k).1.old, .string (rdE l k).1.val], .int .i64 ((rdE l k).2.1 : Int), .int .i64 (rdE l k).2.2]) ∧ Ext w w' := by
  have hlen := hb.len
  obtain ⟨x1, hx1⟩ : ∃ x, l[k + 1]? = some x := ⟨_, List.getElem?_eq_getElem (by omega)⟩
  obtain ⟨x8, hx8⟩ : ∃ x, l[k + 8]? = some x := ⟨_, List.getElem?_eq_getElem (by omega)⟩
  have hx := (Ext.refl w).alloc (.cells #[.int .u8 0, .int .i64 0, .int .i64 0, .int .u8 0, .string ⟨#[]⟩, .string ⟨#[]⟩, .string ⟨#[]⟩] 27)
  have HQ := Lib.hid (heap_alloc_new w (.cells #[.int .u8 0, .int .i64 0, .int .i64 0, .int .u8 0, .string ⟨#[]⟩, .string ⟨#[]⟩, .string ⟨#[]⟩] 27))
  have HB := Lib.hid (hb.ext hx)
  have HE := Lib.hid hx
  obtain ⟨c0, _⟩ := by_cell HB.out h2
  obtain ⟨c1, b1⟩ := by_cell HB.out hx1
  obtain ⟨sn, hsn⟩ : ∃ sn, num ((l.drop (k + 2)).take 6) = sn := ⟨_, rfl⟩
  have HG : Hid (getS l ((k : Int) + 2) 6 = (sn, k + 8, 0)) := Lib.hid (by
    have h := getS_nm (l := l) (a := k + 2) (w := 6) rfl (by omega)
    rw [nmS_yes (by omega)] at h
    rw [hsn] at h
    simpa using h)
  have e0 : decide ((n : Int) < (k : Int)) = false := decide_eq_false (by omega)
  have e1 : ((k : Int) == (n : Int)) = false := by rw [beq_eq_false_iff_ne]; omega
  have e2 : decide ((n : Int) - (k : Int) < 9) = false := decide_eq_false (by omega)
  have HX8 := Lib.hid hx8
  have HX1 := Lib.hid hx1
  have HOFF : Hid (0 < n → ∀ p, (some (⟨g', o, none⟩ : Addr)) = some p → p.block < w.heap.size) := Lib.hid fun h0 p hp => by
    obtain ⟨g2, o2, e, hg, _⟩ := hb.rd.2 (by rw [hlen]; exact h0)
    rw [hp] at e
    injection e with e
    rw [e]
    exact hg
  have HSN := Lib.hid hsn
  clear hx hb hx1 hx8 hsn
  go_enter Tryd.func21, Tryd.ntmps21
  go_wp2_with fail
  have hx2 := (Ext.refl (w.alloc (.cells #[.int .u8 0, .int .i64 0, .int .i64 0, .int .u8 0, .string ⟨#[]⟩, .string ⟨#[]⟩, .string ⟨#[]⟩] 27))).alloc (.cells #[.int .u8 2, .int .i64 (x1 : Int), .int .i64 0, .int .u8 0, .string ⟨#[]⟩, .string ⟨#[]⟩, .string ⟨#[]⟩] 27)
  have HQ := Lib.hid (heap_ext HQ.out hx2)
  have HB := Lib.hid (HB.out.ext hx2)
  have HE := Lib.hid (HE.out.trans hx2)
  have HO := Lib.hid (heap_alloc2_new w (.cells #[.int .u8 0, .int .i64 0, .int .i64 0, .int .u8 0, .string ⟨#[]⟩, .string ⟨#[]⟩, .string ⟨#[]⟩] 27) (.cells #[.int .u8 2, .int .i64 (x1 : Int), .int .i64 0, .int .u8 0, .string ⟨#[]⟩, .string ⟨#[]⟩, .string ⟨#[]⟩] 27))
  have hoff : 0 < n → ∀ p, (some (⟨g', o, none⟩ : Addr)) = some p → p.block < w.heap.size := HOFF.out
  have hWs : ((w.alloc (.cells #[.int .u8 0, .int .i64 0, .int .i64 0, .int .u8 0, .string ⟨#[]⟩, .string ⟨#[]⟩, .string ⟨#[]⟩] 27)).alloc (.cells #[.int .u8 2, .int .i64 (x1 : Int), .int .i64 0, .int .u8 0, .string ⟨#[]⟩, .string ⟨#[]⟩, .string ⟨#[]⟩] 27)).heap.size = w.heap.size + 2 := by simp
  generalize ((w.alloc (.cells #[.int .u8 0, .int .i64 0, .int .i64 0, .int .u8 0, .string ⟨#[]⟩, .string ⟨#[]⟩, .string ⟨#[]⟩] 27)).alloc (.cells #[.int .u8 2, .int .i64 (x1 : Int), .int .i64 0, .int .u8 0, .string ⟨#[]⟩, .string ⟨#[]⟩, .string ⟨#[]⟩] 27)) = W at *
  generalize hg : w.heap.size = g at *
  clear c0 c1 e0 e1 e2 hx2
  refine (rget_any _ l n c _ _ _ _ HB.out.len HB.out.rd hn).mono ?_
  rw [HG.out]
  rintro e w' ⟨rfl, rfl⟩
  obtain ⟨_, _, c2, c3, _⟩ := seven_cells HO.out
  obtain ⟨_, _, f2, f3, _⟩ := seven_free HO.out
  have hlg : g + 1 < W.heap.size := (Array.getElem?_eq_some_iff.1 HO.out).1
  have HO := Lib.hid (show (W.setCell ⟨g + 1, 2, none⟩ (.int .i64 (sn : Int))).heap[g + 1]? = some (.cells #[.int .u8 2, .int .i64 (x1 : Int), .int .i64 (sn : Int), .int .u8 0, .string ⟨#[]⟩, .string ⟨#[]⟩, .string ⟨#[]⟩] 27 (0, 0)) from rdr_set HO.out (.int .i64 (sn : Int)))
  have HQ := Lib.hid (heap_mod HQ.out (mod_set (g + 1) 2 (.int .i64 (sn : Int))) (by omega))
  have HE := Lib.hid (show Ext w (W.setCell ⟨g + 1, 2, none⟩ (.int .i64 (sn : Int))) from HE.out.setCell (p := ⟨g + 1, 2, none⟩) (by dsimp only; omega) (.int .i64 (sn : Int)))
  have HB := Lib.hid (by_mod HB.out (mod_set (g + 1) 2 (.int .i64 (sn : Int))) fun h0 p hp hh => by have := hoff h0 p hp; omega)
  go_upto_region 11 with (fail)
  have hWs : (W.setCell ⟨g + 1, 2, none⟩ (.int .i64 (sn : Int))).heap.size = g + 2 := by simp [World.setCell]; omega
  generalize (W.setCell ⟨g + 1, 2, none⟩ (.int .i64 (sn : Int))) = W1 at *
  clear c2 c3 f2 f3
  obtain ⟨_, _, _, c3, _⟩ := seven_cells HO.out
  obtain ⟨_, _, _, f3, _⟩ := seven_free HO.out
  obtain ⟨c8, b8⟩ := by_cell HB.out HX8.out
  have hx := (Ext.refl (W1.setCell ⟨g + 1, 3, none⟩ (.int .u8 (x8 : Int)))).alloc (.cells #[.string ⟨#[]⟩, .string ⟨#[]⟩, .string ⟨#[]⟩] 78)
  have HTX := Lib.hid (heap_alloc_new (W1.setCell ⟨g + 1, 3, none⟩ (.int .u8 (x8 : Int))) (.cells #[.string ⟨#[]⟩, .string ⟨#[]⟩, .string ⟨#[]⟩] 78))
  have HO := Lib.hid (heap_ext (show (W1.setCell ⟨g + 1, 3, none⟩ (.int .u8 (x8 : Int))).heap[g + 1]? = some (.cells #[.int .u8 2, .int .i64 (x1 : Int), .int .i64 (sn : Int), .int .u8 (x8 : Int), .string ⟨#[]⟩, .string ⟨#[]⟩, .string ⟨#[]⟩] 27 (0, 0)) from rdr_set HO.out (.int .u8 (x8 : Int))) hx)
  have HQ := Lib.hid (heap_ext (heap_mod HQ.out (mod_set (g + 1) 3 (.int .u8 (x8 : Int))) (by omega)) hx)
  have HE := Lib.hid (Ext.trans (show Ext w (W1.setCell ⟨g + 1, 3, none⟩ (.int .u8 (x8 : Int))) from HE.out.setCell (p := ⟨g + 1, 3, none⟩) (by dsimp only; omega) (.int .u8 (x8 : Int))) hx)
  have HB := Lib.hid ((by_mod HB.out (mod_set (g + 1) 3 (.int .u8 (x8 : Int))) fun h0 p hp hh => by have := hoff h0 p hp; omega).ext hx)
  have hsz2 : (W1.setCell ⟨g + 1, 3, none⟩ (.int .u8 (x8 : Int))).heap.size = g + 2 := by simp [World.setCell]; omega
  rw [hsz2] at HTX
  have HS : Hid (RRd w (some ⟨g', o, none⟩) n c l g #[.int .u8 2, .int .i64 (x1 : Int), .int .i64 (sn : Int), .int .u8 (x8 : Int), .string ⟨#[]⟩, .string ⟨#[]⟩, .string ⟨#[]⟩] #[.string ⟨#[]⟩, .string ⟨#[]⟩, .string ⟨#[]⟩] _) := Lib.hid ⟨HB.out, HQ.out, HO.out, HTX.out, HE.out, by omega, hoff⟩
  clear hx HO HQ HE HB HTX
  go_upto_region 14 with (fail)
  generalize ((W1.setCell ⟨g + 1, 3, none⟩ (.int .u8 (x8 : Int))).alloc (.cells #[.string ⟨#[]⟩, .string ⟨#[]⟩, .string ⟨#[]⟩] 78)) = W2 at *
  clear c3 f3 c8
  have hWs1 : W1.heap.size = g + 2 := by omega
  go_wp2_with fail
  refine wp_loop_rounds 4 ?_
  rw [rounds_succ]
  go_wp2_with fail
  have hP0 : k + 9 ≤ l.length := by omega
  have hR := fun (h : enR l k = none) => rdE_none (l := l) (a := k) (by omega) h
  have hY := fun e m (h : enR l k = some (e, m)) => rdE_some (l := l) (a := k) (by omega) h
  cases t1 : rdT l (k + 9) with
  | none =>
    have HN := Lib.hid (hR (enR_raw (enRaw_t1 h2 t1)))
    refine (rdtext_no HS.out.by_ hn hP0 t1 _ (by omega)).mono ?_
    rintro e v0 ⟨⟨s, rfl⟩, rfl⟩
    obtain ⟨d0, d1, d2, d3, d4, d5, d6⟩ := seven_cells HS.out.res
    obtain ⟨e0, e1, e2, e3, e4, e5, e6⟩ := seven_free HS.out.res
    go_wp2_with fail
    refine bodyPost_ret (v := .tuple #[.agg #[.int .u8 0, .int .i64 0, .int .i64 0, .int .u8 0, .string ⟨#[]⟩, .string ⟨#[]⟩, .string ⟨#[]⟩], .int .i64 0, .int .i64 90]) ?_ rfl ⟨by rw [HN.out]; rfl, ?_⟩
    · simp [results, Tryd.results21, go_sem, d0, d1, d2, d3, d4, d5, d6]
    · exact ext_set7 HS.out.ext HS.out.ge _ _ _ _ _ _ _
  | some x =>
    obtain ⟨s1, m1⟩ := x
    have hP1 := rdT_le hP0 t1
    refine (rdtext_yes HS.out.by_ hn hP0 t1 _ (by omega)).mono ?_
    rintro e V0 ⟨rfl, rfl⟩
    obtain ⟨⟨x0, x1', x2⟩, y0, y1, y2⟩ := three_free HS.out.txt
    have HS := Lib.hid (HS.out.putT 0 (.string s1) (ds := #[.string s1, .string ⟨#[]⟩, .string ⟨#[]⟩]) rfl)
    go_wp2_with fail
    rw [rounds_succ]
    go_wp2_with fail
    generalize (V0.setCell ⟨g + 2, 0, none⟩ (.string s1)) = Y0 at *
    clear x0 x1' x2 y0 y1 y2
    cases t2 : rdT l m1 with
    | none =>
      have HN := Lib.hid (hR (enR_raw (enRaw_t2 h2 t1 t2)))
      refine (rdtext_no HS.out.by_ hn hP1 t2 _ rfl).mono ?_
      rintro e v1 ⟨⟨s, rfl⟩, rfl⟩
      obtain ⟨d0, d1, d2, d3, d4, d5, d6⟩ := seven_cells HS.out.res
      obtain ⟨e0, e1, e2, e3, e4, e5, e6⟩ := seven_free HS.out.res
      go_wp2_with fail
      refine bodyPost_ret (v := .tuple #[.agg #[.int .u8 0, .int .i64 0, .int .i64 0, .int .u8 0, .string ⟨#[]⟩, .string ⟨#[]⟩, .string ⟨#[]⟩], .int .i64 0, .int .i64 90]) ?_ rfl ⟨by rw [HN.out]; rfl, ?_⟩
      · simp [results, Tryd.results21, go_sem, d0, d1, d2, d3, d4, d5, d6]
      · exact ext_set7 HS.out.ext HS.out.ge _ _ _ _ _ _ _
    | some x =>
      obtain ⟨s2, m2⟩ := x
      have hP2 := rdT_le hP1 t2
      refine (rdtext_yes HS.out.by_ hn hP1 t2 _ rfl).mono ?_
      rintro e V1 ⟨rfl, rfl⟩
      obtain ⟨⟨x0, x1', x2⟩, y0, y1, y2⟩ := three_free HS.out.txt
      have HS := Lib.hid (HS.out.putT 1 (.string s2) (ds := #[.string s1, .string s2, .string ⟨#[]⟩]) rfl)
      go_wp2_with fail
      rw [rounds_succ]
      go_wp2_with fail
      generalize (V1.setCell ⟨g + 2, 1, none⟩ (.string s2)) = Y1 at *
      clear x0 x1' x2 y0 y1 y2
      cases t3 : rdT l m2 with
      | none =>
        have HN := Lib.hid (hR (enR_raw (enRaw_t3 h2 t1 t2 t3)))
        refine (rdtext_no HS.out.by_ hn hP2 t3 _ rfl).mono ?_
        rintro e v2 ⟨⟨s, rfl⟩, rfl⟩
        obtain ⟨d0, d1, d2, d3, d4, d5, d6⟩ := seven_cells HS.out.res
        obtain ⟨e0, e1, e2, e3, e4, e5, e6⟩ := seven_free HS.out.res
        go_wp2_with fail
        refine bodyPost_ret (v := .tuple #[.agg #[.int .u8 0, .int .i64 0, .int .i64 0, .int .u8 0, .string ⟨#[]⟩, .string ⟨#[]⟩, .string ⟨#[]⟩], .int .i64 0, .int .i64 90]) ?_ rfl ⟨by rw [HN.out]; rfl, ?_⟩
        · simp [results, Tryd.results21, go_sem, d0, d1, d2, d3, d4, d5, d6]
        · exact ext_set7 HS.out.ext HS.out.ge _ _ _ _ _ _ _
      | some x =>
        obtain ⟨s3, m3⟩ := x
        have hP3 := rdT_le hP2 t3
        refine (rdtext_yes HS.out.by_ hn hP2 t3 _ rfl).mono ?_
        rintro e V2 ⟨rfl, rfl⟩
        obtain ⟨⟨x0, x1', x2⟩, y0, y1, y2⟩ := three_free HS.out.txt
        have HS := Lib.hid (HS.out.putT 2 (.string s3) (ds := #[.string s1, .string s2, .string s3]) rfl)
        go_wp2_with fail
        rw [rounds_succ]
        go_upto_region 22 with (fail)
        generalize (V2.setCell ⟨g + 2, 2, none⟩ (.string s3)) = Y2 at *
        clear x0 x1' x2 y0 y1 y2
        obtain ⟨⟨x0, x1', x2⟩, _⟩ := three_free HS.out.txt
        obtain ⟨o0, o1, o2, o3, o4, o5, o6⟩ := seven_cells HS.out.own
        obtain ⟨p0, p1, p2, p3, p4, p5, p6⟩ := seven_free HS.out.own
        have HS := Lib.hid (((HS.out.putO 4 (.string s1) (ds := #[.int .u8 2, .int .i64 (x1 : Int), .int .i64 (sn : Int), .int .u8 (x8 : Int), .string s1, .string ⟨#[]⟩, .string ⟨#[]⟩]) rfl).putO 5 (.string s2) (ds := #[.int .u8 2, .int .i64 (x1 : Int), .int .i64 (sn : Int), .int .u8 (x8 : Int), .string s1, .string s2, .string ⟨#[]⟩]) rfl).putO 6 (.string s3) (ds := #[.int .u8 2, .int .i64 (x1 : Int), .int .i64 (sn : Int), .int .u8 (x8 : Int), .string s1, .string s2, .string s3]) rfl)
        go_upto_region 25 with (fail)
        generalize (((Y2.setCell ⟨g + 1, 4, none⟩ (.string s1)).setCell ⟨g + 1, 5, none⟩ (.string s2)).setCell ⟨g + 1, 6, none⟩ (.string s3)) = Y at *
        clear x0 x1' x2 o0 o1 o2 o3 o4 o5 o6 p0 p1 p2 p3 p4 p5 p6
        obtain ⟨o0, o1, o2, o3, o4, o5, o6⟩ := seven_cells HS.out.own
        have hraw := enRaw_op h2 (by omega) t1 t2 t3
        have h1g : l.getD (k + 1) 0 = x1 := by rw [List.getD_eq_getElem?_getD, HX1.out]; rfl
        have h8g : l.getD (k + 8) 0 = x8 := by rw [List.getD_eq_getElem?_getD, HX8.out]; rfl
        rw [h1g, h8g, HSN.out] at hraw
        cases hk : enOk ⟨2, (x1 : Int), (sn : Int), x8, s1, s2, s3⟩ with
        | false =>
          have HN := Lib.hid (hR (enR_no hraw hk))
          have HKK := Lib.hid hk
          clear hk hraw h1g h8g
          go_wp2_with fail
          refine (rmay_any _ _ _ _ _ _ _ _).mono ?_
          rw [HKK.out]
          rintro e w5 ⟨rfl, hx⟩
          have HS := Lib.hid (HS.out.ext2 hx)
          clear hx o0 o1 o2 o3 o4 o5 o6
          obtain ⟨d0, d1, d2, d3, d4, d5, d6⟩ := seven_cells HS.out.res
          obtain ⟨e0, e1, e2, e3, e4, e5, e6⟩ := seven_free HS.out.res
          go_wp2_with fail
          refine bodyPost_ret (v := .tuple #[.agg #[.int .u8 0, .int .i64 0, .int .i64 0, .int .u8 0, .string ⟨#[]⟩, .string ⟨#[]⟩, .string ⟨#[]⟩], .int .i64 0, .int .i64 90]) ?_ rfl ⟨by rw [HN.out]; rfl, ?_⟩
          · simp [results, Tryd.results21, go_sem, d0, d1, d2, d3, d4, d5, d6]
          · exact ext_set7 HS.out.ext HS.out.ge _ _ _ _ _ _ _
        | true =>
          have HN := Lib.hid (hY _ _ (enR_yes hraw hk))
          have HKK := Lib.hid hk
          clear hk hraw h1g h8g
          go_wp2_with fail
          refine (rmay_any _ _ _ _ _ _ _ _).mono ?_
          rw [HKK.out]
          rintro e w5 ⟨rfl, hx⟩
          have HS := Lib.hid (HS.out.ext2 hx)
          clear hx o0 o1 o2 o3 o4 o5 o6
          obtain ⟨o0, o1, o2, o3, o4, o5, o6⟩ := seven_cells HS.out.own
          obtain ⟨d0, d1, d2, d3, d4, d5, d6⟩ := seven_cells HS.out.res
          obtain ⟨e0, e1, e2, e3, e4, e5, e6⟩ := seven_free HS.out.res
          go_wp2_with fail
          refine bodyPost_ret (v := .tuple #[.agg #[.int .u8 2, .int .i64 (x1 : Int), .int .i64 (sn : Int), .int .u8 (x8 : Int), .string s1, .string s2, .string s3], .int .i64 (m3 : Int), .int .i64 0]) ?_ rfl ⟨by rw [HN.out]; rfl, ?_⟩
          · simp [results, Tryd.results21, go_sem, d0, d1, d2, d3, d4, d5, d6]
          · exact ext_set7 HS.out.ext HS.out.ge _ _ _ _ _ _ _
end Go.Proofs.YtoapjgkfggggmaaDoor

/-
  The contract of open: what the bytes of a place are, or bad where one of its sectors can't be read.
-/
import Derived.Test.YtmbmpabjclkhlaaGreatDoorQ00
import Derived.Test.YtmbmpabjclkhlaaGreatDoorQ07
import Derived.Test.YtmbmpabjclkhlaaGreatDoorQ09
import Derived.Test.YtmbmpabjclkhlaaGreatDoorQ12
import Derived.Test.YtmbmpabjclkhlaaGreatDoorQ13
import Derived.Test.YtmbmpabjclkhlaaGreatDoorQ14
import Derived.Test.YtmbmpabjclkhlaaGreatDoorQ15
import Derived.Test.YtmbmpabjclkhlaaGreatDoorQ16
import Derived.Lib.Hide
import Derived.Deep.DeepCutAuto
namespace Go.Proofs.YtmbmpabjclkhlaaGreatDoor
set_option maxRecDepth 100000
section
open Go Go.RowKit
def DM.gotL (m : DM) (S : Int) : Nat → List Nat
  | 0 => []
  | k + 1 => DM.gotL m S k ++ (m.read (S + (k : Int))).1
def DM.gotB (m : DM) (S : Int) (W : Nat) : Bool := anyIn (fun s => decide ((m.read s).2 ≠ 0)) S W
def DM.plcL (m : DM) (S : Int) (W : Nat) : List Nat := if m.gotB S W = true then [] else m.gotL S W
theorem read_bad {m : DM} {s : Int} (h : (m.read s).2 ≠ 0) : (m.read s).1 = [] := by
  unfold DM.read at h ⊢
  split at h
  · rename_i hu; rw [if_pos hu]
  · rename_i hu
    rw [if_neg hu]
    split at h
    · rename_i hh; rw [if_pos hh]
    · rename_i hh
      rw [if_neg hh]
      split at h
      · exact absurd rfl h
      · split at h
        · rename_i hd; rw [if_pos hd]
        · exact absurd rfl h
theorem read_goodS {m : DM} (hok : m.Ok) {s : Int} (h : (m.read s).2 = 0) : Sect (m.read s).1 := by
  unfold DM.read at h ⊢
  split at h
  · cases h
  · rename_i hu
    rw [if_neg hu]
    split at h
    · cases h
    · rename_i hh
      rw [if_neg hh]
      split at h
      · rename_i b hl
        exact (hok.waits _ (lastW_mem hl)).2
      · split at h
        · cases h
        · rename_i hd
          rw [if_neg hd]
          have hlt := DM.has_lt hh
          rw [List.getD_eq_getElem?_getD, List.getElem?_eq_getElem hlt, Option.getD_some]
          exact hok.rests _ (List.getElem_mem hlt)
theorem read_new {m : DM} (hok : m.Ok) (s : Int) : (∀ b ∈ (m.read s).1, b < 256) ∧ (m.read s).1.length ≤ 64 := by
  by_cases h : (m.read s).2 = 0
  · have := read_goodS hok h
    exact ⟨this.2, by rw [this.1]; omega⟩
  · rw [read_bad h]
    exact ⟨fun b hb => (by cases hb), by simp⟩
theorem read_nilS {m : DM} (hok : m.Ok) {s : Int} : (m.read s).1 = [] ↔ (m.read s).2 ≠ 0 := by
  refine ⟨fun h h0 => ?_, read_bad⟩
  have := (read_goodS hok h0).1
  rw [h] at this
  cases this
theorem plcL_rec {m : DM} (q : Int) : m.plcL (firstS 3 q) 1 = m.cb 3 q := by
  unfold DM.plcL DM.gotB DM.cb
  rw [anyIn_succ, anyIn_zero, Bool.false_or]
  simp only [DM.gotL, List.nil_append, Int.natCast_zero, Int.add_zero]
  by_cases h : (m.read (firstS 3 q)).2 = 0
  · rw [if_neg (by simp [h])]
  · rw [if_pos (by simp [h]), read_bad h]
theorem plcL_frm {m : DM} (hok : m.Ok) (p : Int) : m.plcL (firstS 4 p) 2 = m.fb p := by
  unfold DM.plcL DM.gotB DM.fb pair2
  rw [anyIn_succ, anyIn_succ, anyIn_zero, Bool.false_or]
  simp only [DM.gotL, List.nil_append, Int.natCast_zero, Int.add_zero, read_nilS hok, Int.natCast_one]
  by_cases h : (m.read (firstS 4 p)).2 = 0 <;> by_cases h1 : (m.read (firstS 4 p + 1)).2 = 0 <;> simp [h, h1]
theorem stM_nil (r g p : Int) : stM [] r g p = 2 ∧ (∀ k, mfl [] r g p k = 0) ∧ mbl [] r g p = [] := by
  have hz : szB [] = false := by decide
  have hg := size_bad hz
  refine ⟨nilW_bad r g p, fun k => ?_, ?_⟩
  · rw [(mine_bad hg).2.1, ofl_no hg]
  · rw [(mine_bad hg).2.2, obl_no hg]
theorem keepLog {V W : World} {g d s : Nat} {r inc : Int} (k : Hid (Ext V.drew W)) (h : Hid (LogAt V g d r inc s)) : W.cell? ⟨g, 1, none⟩ = some (.pointer (some ⟨d, 0, none⟩)) := (h.out.ext ((Below.drew (Ext.refl V)).trans k.out)).cells.2.1
theorem tag_grown {w1 w2 : World} {B g : Nat} {v : Value} {n : Nat} {l : List Value} {o : Obj} (hB : g < B) (hown : w1.ownsRow B 5 1 v n l) (hg : w1.grownBy w2 v.ownBlock) (h : w1.heap[g]? = some o) : w2.heap[g]? = some o := by
  refine (hg.block _ (Array.getElem?_eq_some_iff.1 h).1 fun e => ?_).trans h
  have := (hown.lt _ e.symm).1
  omega
set_option maxHeartbeats 1600000 in
theorem wopen_of {w : World} {g d s : Nat} {r inc : Int} {F : Nat → Prop} {m : DM} (h : LogAt w g d r inc s) (hd : PDisk w d F m) (hL : LaidF w) (rg p : Int) (hf : 0 ≤ firstS rg p) (hfew : m.waits.length ≤ 1000000) :
    Calls Tryz.prog 217 #[.pointer (some ⟨g, 0, none⟩), .int .i64 rg, .int .i64 p] w fun e w' => ∃ A N, e = .returned (.tuple #[.int .u8 (stM (m.plcL (firstS rg p) (wid rg)) r rg p : Nat), .agg #[.int .i64 (mfl (m.plcL (firstS rg p) (wid rg)) r rg p 0 : Nat), .int .i64 (mfl (m.plcL (firstS rg p) (wid rg)) r rg p 1 : Nat), .int .i64 (mfl (m.plcL (firstS rg p) (wid rg)) r rg p 2 : Nat), .int .i64 (mfl (m.plcL (firstS rg p) (wid rg)) r rg p 3 : Nat), .int .i64 (mfl (m.plcL (firstS rg p) (wid rg)) r rg p 4 : Nat)], .slice A N N]) ∧
      By w' A N N (mbl (m.plcL (firstS rg p) (wid rg)) r rg p) ∧ Ext w w' := by
  obtain ⟨i0, hi, hz0, hz1, hz2⟩ := info_parts byte_info
  have hfb : firstS rg p ≤ 300 := by
    have := firstS_in rg p
    omega
  have hw2 := wid_le rg
  have hfail : ∀ k : Nat, k < wid rg → (m.read (firstS rg p + (k : Int))).2 ≠ 0 → m.plcL (firstS rg p) (wid rg) = [] := fun k hk hne => by
    unfold DM.plcL
    rw [if_pos (by unfold DM.gotB; exact anyIn_iff.2 ⟨_, by simpa using hne, by omega, by omega⟩)]
  have hgood : m.gotB (firstS rg p) (wid rg) = false → m.plcL (firstS rg p) (wid rg) = m.gotL (firstS rg p) (wid rg) := fun hh => by
    unfold DM.plcL
    rw [if_neg (by rw [hh]; simp)]
  have HFAIL := Lib.hid hfail
  have HGOOD := Lib.hid hgood
  have HD := Lib.hid hd
  have H := Lib.hid h
  have HL := Lib.hid hL
  have HFW := Lib.hid hfew
  generalize hPL : m.plcL (firstS rg p) (wid rg) = PL at *
  obtain ⟨S, hS⟩ : ∃ S, firstS rg p = S := ⟨_, rfl⟩
  obtain ⟨W, hW⟩ : ∃ W, wid rg = W := ⟨_, rfl⟩
  have HS := Lib.hid hS
  have HW := Lib.hid hW
  rw [hS] at hfb hf HFAIL HGOOD
  rw [hW] at hw2 HFAIL HGOOD
  obtain ⟨b, w0, hw0, hE0, hT0, hz0w⟩ : ∃ (b : Nat) (w0 : World), (b = w.heap.size ∧ w0 = w.alloc (.cells #[.int .i64 0, .int .i64 0, .int .i64 0, .int .i64 0, .int .i64 0] 44)) ∧ Ext w w0 ∧ w0.heap[b]? = some (.cells #[.int .i64 0, .int .i64 0, .int .i64 0, .int .i64 0, .int .i64 0] 44 (0, 0)) ∧ (w0.heap.size = b + 1 ∧ w.heap.size ≤ b) :=
    ⟨_, _, ⟨rfl, rfl⟩, (Ext.refl w).alloc _, heap_alloc_new w _, by simp, Nat.le_refl _⟩
  have HE0 := Lib.hid hE0
  have HT0 := Lib.hid hT0
  have HZ0 := Lib.hid hz0w
  clear h hd hL hS hW hfew hfail hgood hPL hE0 hT0 hz0w
  go_enter Tryz.func217, Tryz.ntmps217
  go_wp2_with fail
  rw [← hw0.1, ← hw0.2]
  clear hw0
  refine (wide_any rg _ (HL.out.ext HE0.out).a.t).mono ?_
  rw [HW.out]
  rintro e w1 ⟨rfl, hx⟩
  have HG := Lib.hid ((Gath.start w0).more hx)
  have HT1 := Lib.hid ((hx.block _ (Array.getElem?_eq_some_iff.1 HT0.out).1).trans HT0.out)
  clear hx
  go_wp2_with fail
  go_loopw [9, 15] (fun v i wr => ∃ k : Nat, k ≤ W ∧ i = .int .i64 k ∧ Hid (Gath w0 wr v (m.gotL S k) k) ∧ Hid (m.gotB S k = false) ∧ Hid (wr.heap[b]? = some (.cells #[.int .i64 0, .int .i64 0, .int .i64 0, .int .i64 0, .int .i64 0] 44 (0, 0)))) (fun _ i _ => W - (intOf i).toNat)
  case atStart => exact ⟨0, Nat.zero_le _, rfl, HG, Lib.hid rfl, HT1⟩
  case round =>
    obtain ⟨k, hk, rfl, HG, HLO, HTk⟩ := hrel
    obtain ⟨A, c, rfl, hby⟩ := HG.out.form
    clear hby
    by_cases hlt : k < W
    · have hn := read_new HD.out.ok (S + (k : Int))
      have hm : (m.gotL S (k + 1)) = m.gotL S k ++ (m.read (S + (k : Int))).1 := rfl
      have HM := Lib.hid hm
      have HN := Lib.hid hn
      have hfew := HG.out.few
      have hlo : (m.read (S + (k : Int))).2 = 0 → m.gotB S (k + 1) = false := fun h0 => by
        have := anyIn_succ (fun s => decide ((m.read s).2 ≠ 0)) S k
        have h2 : anyIn (fun s => decide ((m.read s).2 ≠ 0)) S k = false := HLO.out
        unfold DM.gotB
        rw [this, h2]
        simp [h0]
      have hany := HFAIL.out k hlt
      have HLO2 := Lib.hid hlo
      have HANY := Lib.hid hany
      have hcell := (H.out.ext (HE0.out.trans HG.out.ext)).cells.2.1
      have HCL := Lib.hid (H.out.ext (HE0.out.trans HG.out.ext))
      have HXD : Hid (Ext w wr.drew) := Lib.hid (Below.drew (HE0.out.trans HG.out.ext))
      have HF1 := Lib.hid (first_any rg p wr.drew (HL.out.ext HXD.out).a.t)
      rw [HS.out] at HF1
      have HRD : Hid (∀ V, Hid (Ext wr.drew V) → Calls Tryz.prog 204 #[.pointer (some ⟨d, 0, none⟩), .int .i64 (IntKind.i64.wrap (S + (k : Int)))] V fun e w' => ∃ A n, e = .returned (.tuple #[.slice A n n, .int .i64 (m.read (S + (k : Int))).2]) ∧ New V.heap.size w' A n (m.read (S + (k : Int))).1 ∧ Ext V w') := Lib.hid fun V hV => by rw [wrap_i64 (by omega) (by omega)]; exact read_pd (HD.out.ext (HXD.out.trans hV.out)) (S + (k : Int)) HFW.out
      clear hm hn hlo hany
      generalize m.gotL S k = L at *
      generalize (m.read (S + (k : Int))).1 = L2 at *
      generalize (m.read (S + (k : Int))).2 = E2 at *
      go_wp2_with fail
      go_region_held3 (fun w' => w'.cell? ⟨g, 1, none⟩ = some (.pointer (some ⟨d, 0, none⟩)))
        (first | with_reducible exact hcell | exact keepLog (by assumption) HCL | go_keep)
        (first
          | (go_at_call 58; ((with_reducible refine HF1.out.mono ?_); rintro e w2 ⟨rfl, hx⟩; have HXk := Lib.hid hx; clear hx))
          | (go_at_call 204; ((with_reducible refine (HRD.out _ HXk).mono ?_); rintro e w3 ⟨A2, n2, rfl, hnew, hx⟩; have HX3 : Hid (Ext wr.drew w3) := Lib.hid (HXk.out.trans hx); have HNEW := Lib.hid hnew; clear hx hnew)))
      obtain rfl : n2 = L2.length := HNEW.out.len.symm
      have HB := Lib.hid HNEW.out.by
      have HGd : Hid (Gath w0 wr.drew (.slice A L.length c) L k) := Lib.hid (HG.out.more (Below.drew (Ext.refl wr)))
      have HG := Lib.hid (HGd.out.more HX3.out)
      have HTk : Hid (w3.heap[b]? = some (.cells #[.int .i64 0, .int .i64 0, .int .i64 0, .int .i64 0, .int .i64 0] 44 (0, 0))) := Lib.hid ((HX3.out.block _ (Array.getElem?_eq_some_iff.1 HTk.out).1).trans HTk.out)
      by_cases h0 : E2 = 0
      · subst h0
        have hl2 := HN.out.2
        have hsz := HG.out.ext.size
        go_wp2_with (at_builtin; refine wpList_append_by rfl _ _ 45 rfl w0.heap.size 5 i0 Tryz.underlying45 hi hz0 hz1 hz2 _ L.length (vb L) rfl HG.out.own A2 L2.length L2.length L2 rfl HB.out (by omega) hsz ?_)
        rintro v' w4 hown hgrow
        have HTk := Lib.hid (tag_grown (by have := HZ0.out.1; omega) HG.out.own hgrow HTk.out)
        have HG := Lib.hid (HG.out.app hgrow hown HN.out.1 HN.out.2)
        clear hown hgrow
        go_wp2_with fail
        go_roundw
        case rel => exact ⟨k + 1, by omega, by go_num, by rw [HM.out]; exact HG, Lib.hid (HLO2.out trivial), HTk⟩
        case measure => simp [intOf]; omega
      · have hne : (E2 != 0) = true := by simpa using h0
        have HNE := Lib.hid h0
        have hc := five_cells HTk.out
        obtain ⟨⟨c0, c1, c2, c3, c4⟩, f0, f1, f2, f3, f4⟩ := hc
        clear h0
        go_wp2_with fail
        have hrow := five_row HTk.out (.int .i64 0) (.int .i64 0) (.int .i64 0) (.int .i64 0) (.int .i64 0)
        have hx := five_ext (HE0.out.trans HG.out.ext) HZ0.out.2 (.int .i64 0) (.int .i64 0) (.int .i64 0) (.int .i64 0) (.int .i64 0)
        clear c0 c1 c2 c3 c4 f0 f1 f2 f3 f4
        generalize (((((w3.setCell ⟨b, 0, none⟩ (.int .i64 0)).setCell ⟨b, 1, none⟩ (.int .i64 0)).setCell ⟨b, 2, none⟩ (.int .i64 0)).setCell ⟨b, 3, none⟩ (.int .i64 0)).setCell ⟨b, 4, none⟩ (.int .i64 0)) = V at hrow hx ⊢
        obtain ⟨⟨c0, c1, c2, c3, c4⟩, _⟩ := five_cells hrow
        refine bodyPost_ret (v := .tuple #[.int .u8 2, .agg #[.int .i64 0, .int .i64 0, .int .i64 0, .int .i64 0, .int .i64 0], .slice none 0 0]) (by simp [results, Tryz.results217, go_sem, c0, c1, c2, c3, c4]) rfl ?_
        have hnil := stM_nil r rg p
        rw [HANY.out HNE.out, hnil.1, hnil.2.2]
        simp only [hnil.2.1]
        exact ⟨none, 0, rfl, By.nil_ V, hx⟩
    · obtain rfl : k = W := by omega
      have hcl := (H.out.ext (HE0.out.trans HG.out.ext)).cells.2.2.1
      obtain ⟨A2, c2, e2, hby⟩ := HG.out.form
      injection e2 with e21 _ e23
      subst e21; subst e23
      have HBY := Lib.hid hby
      have ePL := HGOOD.out HLO.out
      subst ePL
      generalize hLe : m.gotL S k = L at *
      clear hby HFAIL HGOOD
      go_wp2_with fail
      refine (mine_own A L.length c L r rg p _ (HL.out.ext (HE0.out.trans HG.out.ext)) HBY.out).mono ?_
      rintro e w3 ⟨A3, N3, rfl, hb, hge, hx⟩
      have HX3 := Lib.hid (HG.out.ext.trans hx)
      have hrow := (hx.block _ (Array.getElem?_eq_some_iff.1 HTk.out).1).trans HTk.out
      have HGE : Hid (∀ g o, A3 = some ⟨g, o, none⟩ → 0 < N3 → b + 1 ≤ g) := Lib.hid fun g o hA hN => by
        have h1 := hge g o hA hN
        have h2 := HG.out.ext.size
        have h3 := HZ0.out.1
        omega
      have HB3 := Lib.hid hb
      have HROW := Lib.hid hrow
      obtain ⟨⟨c0, c1, c2, c3, c4⟩, f0, f1, f2, f3, f4⟩ := five_cells hrow
      have hl3 := (Array.getElem?_eq_some_iff.1 hrow).1
      clear hb hge hx hrow hcl
      go_wp2_with fail
      have hrow := five_row HROW.out (.int .i64 (mfl L r rg p 0 : Nat)) (.int .i64 (mfl L r rg p 1 : Nat)) (.int .i64 (mfl L r rg p 2 : Nat)) (.int .i64 (mfl L r rg p 3 : Nat)) (.int .i64 (mfl L r rg p 4 : Nat))
      have hx := five_ext (HE0.out.trans HX3.out) HZ0.out.2 (.int .i64 (mfl L r rg p 0 : Nat)) (.int .i64 (mfl L r rg p 1 : Nat)) (.int .i64 (mfl L r rg p 2 : Nat)) (.int .i64 (mfl L r rg p 3 : Nat)) (.int .i64 (mfl L r rg p 4 : Nat))
      have hb := HB3.out.five (h0 := b) (fun g o hA hN e => by have := HGE.out g o hA hN; omega) (.int .i64 (mfl L r rg p 0 : Nat)) (.int .i64 (mfl L r rg p 1 : Nat)) (.int .i64 (mfl L r rg p 2 : Nat)) (.int .i64 (mfl L r rg p 3 : Nat)) (.int .i64 (mfl L r rg p 4 : Nat))
      clear c0 c1 c2 c3 c4 f0 f1 f2 f3 f4
      generalize (((((w3.setCell ⟨b, 0, none⟩ (.int .i64 (mfl L r rg p 0 : Nat))).setCell ⟨b, 1, none⟩ (.int .i64 (mfl L r rg p 1 : Nat))).setCell ⟨b, 2, none⟩ (.int .i64 (mfl L r rg p 2 : Nat))).setCell ⟨b, 3, none⟩ (.int .i64 (mfl L r rg p 3 : Nat))).setCell ⟨b, 4, none⟩ (.int .i64 (mfl L r rg p 4 : Nat))) = V at hrow hx hb ⊢
      obtain ⟨⟨c0, c1, c2, c3, c4⟩, _⟩ := five_cells hrow
      refine bodyPost_ret (v := .tuple #[.int .u8 (stM L r rg p : Nat), .agg #[.int .i64 (mfl L r rg p 0 : Nat), .int .i64 (mfl L r rg p 1 : Nat), .int .i64 (mfl L r rg p 2 : Nat), .int .i64 (mfl L r rg p 3 : Nat), .int .i64 (mfl L r rg p 4 : Nat)], .slice A3 N3 N3]) (by simp [results, Tryz.results217, go_sem, c0, c1, c2, c3, c4]) rfl ?_
      subst hLe
      exact ⟨A3, N3, rfl, hb, hx⟩
end
section
open Go Go.RowKit
theorem bal_cells {w : World} {g : Nat} {x y : Int} {t : TypeId} (h : w.heap[g]? = some (.cells #[.int .i64 x, .int .i64 y] t (0, 0))) : w.cell? ⟨g, 0, none⟩ = some (.int .i64 x) ∧ w.cell? ⟨g, 1, none⟩ = some (.int .i64 y) := ⟨cell_of_row w g 0 _ _ _ h, cell_of_row w g 1 _ _ _ h⟩
theorem keep_row {u w' : World} {g : Nat} {ob : Obj} (k : Ext u w') (h : u.heap[g]? = some ob) : w'.heap[g]? = some ob := (k.block g (Array.getElem?_eq_some_iff.1 h).1).trans h
theorem cell_new {w : World} {cs : Array Value} {t : TypeId} {g i : Nat} {v : Value} (hg : g = w.heap.size) (hv : cs[i]? = some v) : (w.alloc (.cells cs t)).cell? ⟨g, i, none⟩ = some v := by
  subst hg
  exact cell_of_row _ _ i _ _ _ (heap_alloc_new w _) |>.trans hv
theorem ext_cellL {w w' : World} {g i : Nat} {v : Value} (h : Ext w w') (hc : w.cell? ⟨g, i, none⟩ = some v) : w'.cell? ⟨g, i, none⟩ = some v := (Below.cell h (p := ⟨g, i, none⟩) (World.block_lt_of_cell? w _ hc)).trans hc
def balI (x y a b : Int) : Int := orI (cmpI x a) (cmpI y b)
theorem balI_pos {x y a b : Int} : 0 < balI x y a b ↔ gtL x y a b := by
  unfold balI orI gtL
  rcases cmpI_cases x a with ⟨h, k⟩ | ⟨h, k⟩ | ⟨h, k⟩ <;> rcases cmpI_cases y b with ⟨h2, k2⟩ | ⟨h2, k2⟩ | ⟨h2, k2⟩ <;> rw [h, h2] <;> simp <;> omega
theorem balI_ge {x y a b : Int} : 0 ≤ balI x y a b ↔ ¬ gtL a b x y := by
  unfold balI orI gtL
  rcases cmpI_cases x a with ⟨h, k⟩ | ⟨h, k⟩ | ⟨h, k⟩ <;> rcases cmpI_cases y b with ⟨h2, k2⟩ | ⟨h2, k2⟩ | ⟨h2, k2⟩ <;> rw [h, h2] <;> simp <;> omega
set_option maxHeartbeats 600000 in
theorem bal_of (x y a b : Int) (w : World) : Calls Tryz.prog 266 #[.agg #[.int .i64 x, .int .i64 y], .agg #[.int .i64 a, .int .i64 b]] w fun e w' => e = .returned (.int .i64 (balI x y a b)) ∧ Ext w w' := by
  have hE := ((Ext.refl w).alloc (.cells #[.int .i64 x, .int .i64 y] 38)).alloc (.cells #[.int .i64 a, .int .i64 b] 38)
  have hT : ((w.alloc (.cells #[.int .i64 x, .int .i64 y] 38)).alloc (.cells #[.int .i64 a, .int .i64 b] 38)).heap[w.heap.size]? = some (.cells #[.int .i64 x, .int .i64 y] 38 (0, 0)) := keep_row ((Ext.refl _).alloc _) (heap_alloc_new w _)
  have hU : ((w.alloc (.cells #[.int .i64 x, .int .i64 y] 38)).alloc (.cells #[.int .i64 a, .int .i64 b] 38)).heap[w.heap.size + 1]? = some (.cells #[.int .i64 a, .int .i64 b] 38 (0, 0)) := by
    rw [show w.heap.size + 1 = (w.alloc (.cells #[.int .i64 x, .int .i64 y] 38)).heap.size from by simp]
    exact heap_alloc_new _ _
  have HT := Lib.hid hT
  have HU := Lib.hid hU
  have HE := Lib.hid hE
  obtain ⟨i0, i1⟩ := bal_cells hT
  obtain ⟨j0, j1⟩ := bal_cells hU
  clear hT hU hE
  go_enter Tryz.func266, Tryz.ntmps266
  go_wp2_with fail
  go_region_held3 (fun w' => w'.cell? ⟨w.heap.size, 0, none⟩ = some (.int .i64 x) ∧ w'.cell? ⟨w.heap.size, 1, none⟩ = some (.int .i64 y) ∧ w'.cell? ⟨w.heap.size + 1, 0, none⟩ = some (.int .i64 a) ∧ w'.cell? ⟨w.heap.size + 1, 1, none⟩ = some (.int .i64 b))
    (first | with_reducible exact ⟨i0, i1, j0, j1⟩ | (refine (fun k => ⟨(bal_cells (keep_row k HT.out)).1, (bal_cells (keep_row k HT.out)).2, (bal_cells (keep_row k HU.out)).1, (bal_cells (keep_row k HU.out)).2⟩) ?_; repeat (first | exact Ext.refl _ | refine Ext.drew ?_ | refine Ext.alloc ?_ _)))
    (first
      | (go_at_call 291; ((with_reducible refine (compare_of _ _ _).mono ?_); rintro e w1 ⟨rfl, rfl⟩))
      | (go_at_call 290; ((refine (or_of _ _ (cmpI x a) (cmpI y b) _ ?_ ?_).mono ?_); (first | exact cell_new (by simp) rfl | (show (World.drew _).cell? _ = _; exact cell_new (by simp) rfl)); (first | exact cell_new (by simp) rfl | (show (World.drew _).cell? _ = _; exact cell_new (by simp) rfl)); rintro e w1 ⟨rfl, rfl⟩)))
  all_goals
    clear i0 i1 j0 j1
    go_wp2_with fail
    go_ret
    exact ⟨rfl, by repeat (first | exact HE.out | refine Ext.drew ?_ | refine Ext.alloc ?_ _)⟩
theorem isForIndex_of (c : CopL) (g : Nat) (i : Int) (w : World) (hg : w.cell? ⟨g, 0, none⟩ = some (.int .i64 i)) :
    Calls Tryz.prog 260 #[.agg #[.int .u8 (c.st : Int), .int .i64 c.ix, .int .i64 c.bx, .int .i64 c.yb, .int .u8 (c.e.k : Int), .int .i64 c.e.cl, .int .i64 c.e.sq, .int .u8 (c.e.ok : Int), .string c.e.key, .string c.e.old, .string c.e.val], .pointer (some ⟨g, 0, none⟩)] w fun e w' => e = .returned (.bool ((c.st : Int) == 1 && c.ix == i)) ∧ Ext w w' := by
  have hE := (Ext.refl w).alloc (.cells #[.int .u8 (c.st : Int), .int .i64 c.ix, .int .i64 c.bx, .int .i64 c.yb, .int .u8 (c.e.k : Int), .int .i64 c.e.cl, .int .i64 c.e.sq, .int .u8 (c.e.ok : Int), .string c.e.key, .string c.e.old, .string c.e.val] 149)
  have hg2 := ext_cellL ((Ext.refl w).alloc (.cells #[.int .u8 (c.st : Int), .int .i64 c.ix, .int .i64 c.bx, .int .i64 c.yb, .int .u8 (c.e.k : Int), .int .i64 c.e.cl, .int .i64 c.e.sq, .int .u8 (c.e.ok : Int), .string c.e.key, .string c.e.old, .string c.e.val] 149)) hg
  have HE := Lib.hid hE
  have HF := Lib.hid isFor_of
  clear hE hg
  go_enter Tryz.func260, Tryz.ntmps260
  go_wp2_with fail
  refine (HF.out _ _ _ _).mono ?_
  rintro e w1 ⟨rfl, rfl⟩
  go_wp2_with fail
  go_ret
  exact ⟨rfl, HE.out⟩
theorem isBad1_of (c : CopL) (w : World) :
    Calls Tryz.prog 263 #[.agg #[.int .u8 (c.st : Int), .int .i64 c.ix, .int .i64 c.bx, .int .i64 c.yb, .int .u8 (c.e.k : Int), .int .i64 c.e.cl, .int .i64 c.e.sq, .int .u8 (c.e.ok : Int), .string c.e.key, .string c.e.old, .string c.e.val]] w fun e w' => e = .returned (.bool ((c.st : Int) != 0 && (c.st : Int) != 1)) ∧ Ext w w' := by
  have hE := (Ext.refl w).alloc (.cells #[.int .u8 (c.st : Int), .int .i64 c.ix, .int .i64 c.bx, .int .i64 c.yb, .int .u8 (c.e.k : Int), .int .i64 c.e.cl, .int .i64 c.e.sq, .int .u8 (c.e.ok : Int), .string c.e.key, .string c.e.old, .string c.e.val] 149)
  have HE := Lib.hid hE
  have HF := Lib.hid isBadL_of
  clear hE
  go_enter Tryz.func263, Tryz.ntmps263
  go_wp2_with fail
  refine (HF.out _ _).mono ?_
  rintro e w1 ⟨rfl, rfl⟩
  go_wp2_with fail
  go_ret
  exact ⟨rfl, HE.out⟩
theorem isNone_of (c : CopL) (w : World) :
    Calls Tryz.prog 268 #[.agg #[.int .u8 (c.st : Int), .int .i64 c.ix, .int .i64 c.bx, .int .i64 c.yb, .int .u8 (c.e.k : Int), .int .i64 c.e.cl, .int .i64 c.e.sq, .int .u8 (c.e.ok : Int), .string c.e.key, .string c.e.old, .string c.e.val]] w fun e w' => e = .returned (.bool false) ∧ Ext w w' := by
  have hE := (Ext.refl w).alloc (.cells #[.int .u8 (c.st : Int), .int .i64 c.ix, .int .i64 c.bx, .int .i64 c.yb, .int .u8 (c.e.k : Int), .int .i64 c.e.cl, .int .i64 c.e.sq, .int .u8 (c.e.ok : Int), .string c.e.key, .string c.e.old, .string c.e.val] 149)
  have HE := Lib.hid hE
  clear hE
  go_enter Tryz.func268, Tryz.ntmps268
  go_wp2_with fail
  go_ret
  exact ⟨rfl, HE.out⟩
theorem isLater_of (c : CopL) (g : Nat) (i : Int) (w : World) (hg : w.cell? ⟨g, 0, none⟩ = some (.int .i64 i)) :
    Calls Tryz.prog 292 #[.agg #[.int .u8 (c.st : Int), .int .i64 c.ix, .int .i64 c.bx, .int .i64 c.yb, .int .u8 (c.e.k : Int), .int .i64 c.e.cl, .int .i64 c.e.sq, .int .u8 (c.e.ok : Int), .string c.e.key, .string c.e.old, .string c.e.val], .pointer (some ⟨g, 0, none⟩)] w fun e w' => e = .returned (.bool ((c.st : Int) == 1 && decide (i < c.ix))) ∧ Ext w w' := by
  have hE := (Ext.refl w).alloc (.cells #[.int .u8 (c.st : Int), .int .i64 c.ix, .int .i64 c.bx, .int .i64 c.yb, .int .u8 (c.e.k : Int), .int .i64 c.e.cl, .int .i64 c.e.sq, .int .u8 (c.e.ok : Int), .string c.e.key, .string c.e.old, .string c.e.val] 149)
  have hg2 := ext_cellL ((Ext.refl w).alloc (.cells #[.int .u8 (c.st : Int), .int .i64 c.ix, .int .i64 c.bx, .int .i64 c.yb, .int .u8 (c.e.k : Int), .int .i64 c.e.cl, .int .i64 c.e.sq, .int .u8 (c.e.ok : Int), .string c.e.key, .string c.e.old, .string c.e.val] 149)) hg
  have HE := Lib.hid hE
  clear hE hg
  obtain ⟨b, hb⟩ : ∃ b, ((c.st : Int) == 1) = b := ⟨_, rfl⟩
  obtain ⟨d, hd⟩ : ∃ d, decide (i < c.ix) = d := ⟨_, rfl⟩
  rw [hb, hd]
  cases b <;>
  · go_enter Tryz.func292, Tryz.ntmps292
    go_wp2_with fail
    go_ret
    exact ⟨rfl, HE.out⟩
theorem isRecent_of (c : CopL) (p : Rec) (g5 g7 g3 : Nat) (i : Int) (w : World) (h5 : w.cell? ⟨g5, 0, none⟩ = some (.int .i64 i)) (h7 : w.cell? ⟨g7, 0, none⟩ = some (.func (.func 260) #[] #[.pointer (some ⟨g5, 0, none⟩)]))
    (hx : w.cell? ⟨g3, 2, none⟩ = some (.int .i64 p.bx)) (hy : w.cell? ⟨g3, 3, none⟩ = some (.int .i64 p.yb)) :
    Calls Tryz.prog 265 #[.agg #[.int .u8 (c.st : Int), .int .i64 c.ix, .int .i64 c.bx, .int .i64 c.yb, .int .u8 (c.e.k : Int), .int .i64 c.e.cl, .int .i64 c.e.sq, .int .u8 (c.e.ok : Int), .string c.e.key, .string c.e.old, .string c.e.val], .pointer (some ⟨g7, 0, none⟩), .pointer (some ⟨g3, 0, none⟩)] w fun e w' => e = .returned (.bool (((c.st : Int) == 1 && c.ix == i) && decide (0 ≤ balI c.bx c.yb p.bx p.yb))) ∧ Ext w w' := by
  have hE := (Ext.refl w).alloc (.cells #[.int .u8 (c.st : Int), .int .i64 c.ix, .int .i64 c.bx, .int .i64 c.yb, .int .u8 (c.e.k : Int), .int .i64 c.e.cl, .int .i64 c.e.sq, .int .u8 (c.e.ok : Int), .string c.e.key, .string c.e.old, .string c.e.val] 149)
  have HE := Lib.hid hE
  have HI := Lib.hid (isForIndex_of c g5 i _ (ext_cellL ((Ext.refl w).alloc (.cells #[.int .u8 (c.st : Int), .int .i64 c.ix, .int .i64 c.bx, .int .i64 c.yb, .int .u8 (c.e.k : Int), .int .i64 c.e.cl, .int .i64 c.e.sq, .int .u8 (c.e.ok : Int), .string c.e.key, .string c.e.old, .string c.e.val] 149)) h5))
  have HB := Lib.hid (bal_of c.bx c.yb p.bx p.yb)
  have k7 := ext_cellL ((Ext.refl w).alloc (.cells #[.int .u8 (c.st : Int), .int .i64 c.ix, .int .i64 c.bx, .int .i64 c.yb, .int .u8 (c.e.k : Int), .int .i64 c.e.cl, .int .i64 c.e.sq, .int .u8 (c.e.ok : Int), .string c.e.key, .string c.e.old, .string c.e.val] 149)) h7
  have kx := ext_cellL ((Ext.refl w).alloc (.cells #[.int .u8 (c.st : Int), .int .i64 c.ix, .int .i64 c.bx, .int .i64 c.yb, .int .u8 (c.e.k : Int), .int .i64 c.e.cl, .int .i64 c.e.sq, .int .u8 (c.e.ok : Int), .string c.e.key, .string c.e.old, .string c.e.val] 149)) hx
  have ky := ext_cellL ((Ext.refl w).alloc (.cells #[.int .u8 (c.st : Int), .int .i64 c.ix, .int .i64 c.bx, .int .i64 c.yb, .int .u8 (c.e.k : Int), .int .i64 c.e.cl, .int .i64 c.e.sq, .int .u8 (c.e.ok : Int), .string c.e.key, .string c.e.old, .string c.e.val] 149)) hy
  have hT := heap_alloc_new w (.cells #[.int .u8 (c.st : Int), .int .i64 c.ix, .int .i64 c.bx, .int .i64 c.yb, .int .u8 (c.e.k : Int), .int .i64 c.e.cl, .int .i64 c.e.sq, .int .u8 (c.e.ok : Int), .string c.e.key, .string c.e.old, .string c.e.val] 149)
  have c2 := cell_of_row _ _ 2 _ _ _ hT
  have c3 := cell_of_row _ _ 3 _ _ _ hT
  have KX := Lib.hid kx
  have KY := Lib.hid ky
  have C2 := Lib.hid c2
  have C3 := Lib.hid c3
  clear hE h5 h7 hx hy hT c2 c3 kx ky
  obtain ⟨b, hb⟩ : ∃ b, ((c.st : Int) == 1 && c.ix == i) = b := ⟨_, rfl⟩
  obtain ⟨z, hz⟩ : ∃ z, balI c.bx c.yb p.bx p.yb = z := ⟨_, rfl⟩
  rw [hb] at HI ⊢
  rw [hz] at HB ⊢
  clear hb hz
  cases b with
  | false =>
    go_enter Tryz.func265, Tryz.ntmps265
    go_wp2_with fail
    refine HI.out.mono ?_
    rintro e w1 ⟨rfl, hx⟩
    have HX := Lib.hid (HE.out.trans hx)
    clear hx
    go_wp2_with fail
    go_ret
    exact ⟨rfl, HX.out⟩
  | true =>
    go_enter Tryz.func265, Tryz.ntmps265
    go_wp2_with fail
    refine HI.out.mono ?_
    rintro e w1 ⟨rfl, hx⟩
    have HX := Lib.hid (HE.out.trans hx)
    have kx := ext_cellL hx KX.out
    have ky := ext_cellL hx KY.out
    have k2 := ext_cellL hx C2.out
    have k3 := ext_cellL hx C3.out
    clear hx
    go_wp2_with fail
    refine (HB.out _).mono ?_
    rintro e w2 ⟨rfl, hx⟩
    have HX := Lib.hid (HX.out.trans hx)
    clear hx kx ky k2 k3
    go_wp2_with fail
    go_ret
    exact ⟨rfl, HX.out⟩
end
section
open Go Go.RowKit
theorem By.none_ (w : World) : By w none 0 0 [] := ⟨rfl, Nat.le_refl _, by omega, Rd.nil_, fun _ => rfl⟩
theorem idx_three (a b c : Int) (w : World) : (Instr.index 233 (.agg #[.int .i64 a, .int .i64 b, .int .i64 c]) (.int .i64 0)).run Tryz.prog w = .ok (.int .i64 a) w ∧ (Instr.index 233 (.agg #[.int .i64 a, .int .i64 b, .int .i64 c]) (.int .i64 1)).run Tryz.prog w = .ok (.int .i64 b) w ∧ (Instr.index 233 (.agg #[.int .i64 a, .int .i64 b, .int .i64 c]) (.int .i64 2)).run Tryz.prog w = .ok (.int .i64 c) w := by
  refine ⟨?_, ?_, ?_⟩ <;> kernel_rfl
theorem sput6 (n : Nat) (w : World) (hL : Laid w) (hn : n ≤ 1099511627776) :
    Calls Tryz.prog 147 #[.int .i64 6, .int .i64 (n : Int)] w fun e w' => ∃ A' c', e = .returned (.tuple #[.slice A' 6 c', .int .i64 0]) ∧ By w' A' 6 c' (digs 6 n) ∧ Ext w w' := put_by 6 n w hL (fits_six hn)
theorem sput1 (n : Nat) (w : World) (hL : Laid w) (hn : n < 256) :
    Calls Tryz.prog 147 #[.int .i64 1, .int .i64 (n : Int)] w fun e w' => ∃ A' c', e = .returned (.tuple #[.slice A' 1 c', .int .i64 0]) ∧ By w' A' 1 c' [n] ∧ Ext w w' := by
  have h := put_by 1 n w hL (fits_byte hn)
  rw [digs_byte hn] at h
  exact h
theorem sjoin1 {A1 A2 : Option Addr} {c1 c2 : Nat} {l2 : List Nat} (w : World) (h1 : By w A1 0 c1 []) (h2 : By w A2 6 c2 l2) :
    Calls Tryz.prog 139 #[.slice (some ⟨w.heap.size, 0, none⟩) 2 2] (w.alloc (.cells #[.slice A1 0 c1, .slice A2 6 c2] 45)) fun e w' => ∃ A' c', e = .returned (.slice A' 6 c') ∧ By w' A' 6 c' l2 ∧ Ext w w' := join2_by w h1 h2 (by omega)
theorem sjoin2 {A1 A2 : Option Addr} {c1 c2 : Nat} {l1 l2 : List Nat} (w : World) (h1 : By w A1 6 c1 l1) (h2 : By w A2 1 c2 l2) :
    Calls Tryz.prog 139 #[.slice (some ⟨w.heap.size, 0, none⟩) 2 2] (w.alloc (.cells #[.slice A1 6 c1, .slice A2 1 c2] 45)) fun e w' => ∃ A' c', e = .returned (.slice A' 7 c') ∧ By w' A' 7 c' (l1 ++ l2) ∧ Ext w w' := join2_by w h1 h2 (by omega)
end
section
open Go Go.RowKit
def setL (w : World) (g : Nat) : Nat → List Value → World
  | _, [] => w
  | o, x :: xs => setL (w.setCell ⟨g, o, none⟩ x) g (o + 1) xs
def setA (cs : Array Value) : Nat → List Value → Array Value
  | _, [] => cs
  | o, x :: xs => setA (cs.setIfInBounds o x) (o + 1) xs
theorem row_set1 {w : World} {g i : Nat} {cs : Array Value} {t : TypeId} (h : w.heap[g]? = some (.cells cs t (0, 0))) (v : Value) : (w.setCell ⟨g, i, none⟩ v).heap[g]? = some (.cells (cs.setIfInBounds i v) t (0, 0)) := by
  rw [setCell_eq_setRow w g i _ _ _ v h]
  exact setRow_heap w g _ (cs.setIfInBounds i v) _ _ h
theorem row_setL {g : Nat} {t : TypeId} : ∀ (xs : List Value) (w : World) (o : Nat) (cs : Array Value), w.heap[g]? = some (.cells cs t (0, 0)) → (setL w g o xs).heap[g]? = some (.cells (setA cs o xs) t (0, 0))
  | [], _, _, _, h => h
  | x :: xs, _, o, _, h => row_setL xs _ (o + 1) _ (row_set1 h x)
theorem mod_setL {g : Nat} : ∀ (xs : List Value) (w : World) (o : Nat), Mod (fun k => k = g) w (setL w g o xs)
  | [], w, _ => Mod.refl (fun k => k = g) w
  | x :: xs, w, o => Mod.trans (F := fun k => k = g) (Mod.setCell (F := fun k => k = g) (Mod.refl (fun k => k = g) w) (p := ⟨g, o, none⟩) (.inl rfl) x) (mod_setL xs _ (o + 1)) fun _ hi => .inl hi
theorem ext_setL {a w : World} (h : Ext a w) {g : Nat} (hg : a.heap.size ≤ g) (xs : List Value) (o : Nat) : Ext a (setL w g o xs) :=
  Mod.to_ext (Mod.trans (F := fun k => k = g) (Mod.of_ext (F := fun k => k = g) h) (mod_setL xs w o) fun _ hi => .inl hi) fun i hi => by subst hi; exact hg
theorem off_setL {w : World} {g k : Nat} {ob : Obj} (h : w.heap[k]? = some ob) (hk : k ≠ g) (xs : List Value) (o : Nat) : (setL w g o xs).heap[k]? = some ob :=
  ((mod_setL (g := g) xs w o).block k (Array.getElem?_eq_some_iff.1 h).1 hk).trans h
end
section
open Go Go.RowKit
theorem tower5 (w : World) (g : Nat) (x0 x1 x2 x3 x4 : Value) : (((((w.setCell ⟨g, 0, none⟩ (x0)).setCell ⟨g, 1, none⟩ (x1)).setCell ⟨g, 2, none⟩ (x2)).setCell ⟨g, 3, none⟩ (x3)).setCell ⟨g, 4, none⟩ (x4)) = setL w g 0 [x0, x1, x2, x3, x4] := by
  simp only [setL, Nat.zero_add, Nat.reduceAdd]
theorem arr5 (x0 x1 x2 x3 x4 z0 z1 z2 z3 z4 : Value) : setA #[z0, z1, z2, z3, z4] 0 [x0, x1, x2, x3, x4] = #[x0, x1, x2, x3, x4] := by
  simp only [setA, List.setIfInBounds_toArray, List.set_cons_zero, List.set_cons_succ, Nat.zero_add, Nat.reduceAdd]
theorem row5 {w : World} {g : Nat} {t : TypeId} {z0 z1 z2 z3 z4 : Value} (h : w.heap[g]? = some (.cells #[z0, z1, z2, z3, z4] t (0, 0))) (x0 x1 x2 x3 x4 : Value) :
    ((((((w.setCell ⟨g, 0, none⟩ (x0)).setCell ⟨g, 1, none⟩ (x1)).setCell ⟨g, 2, none⟩ (x2)).setCell ⟨g, 3, none⟩ (x3)).setCell ⟨g, 4, none⟩ (x4))).heap[g]? = some (.cells #[x0, x1, x2, x3, x4] t (0, 0)) := by
  rw [tower5]
  have h2 := row_setL [x0, x1, x2, x3, x4] w 0 _ h
  rw [arr5] at h2
  exact h2
theorem ext5 {a w : World} (h : Ext a w) {g : Nat} (hg : a.heap.size ≤ g) (x0 x1 x2 x3 x4 : Value) : Ext a ((((((w.setCell ⟨g, 0, none⟩ (x0)).setCell ⟨g, 1, none⟩ (x1)).setCell ⟨g, 2, none⟩ (x2)).setCell ⟨g, 3, none⟩ (x3)).setCell ⟨g, 4, none⟩ (x4))) := by
  rw [tower5]
  exact ext_setL h hg _ _
theorem tower11 (w : World) (g : Nat) (x0 x1 x2 x3 x4 x5 x6 x7 x8 x9 x10 : Value) : (((((((((((w.setCell ⟨g, 0, none⟩ (x0)).setCell ⟨g, 1, none⟩ (x1)).setCell ⟨g, 2, none⟩ (x2)).setCell ⟨g, 3, none⟩ (x3)).setCell ⟨g, 4, none⟩ (x4)).setCell ⟨g, 5, none⟩ (x5)).setCell ⟨g, 6, none⟩ (x6)).setCell ⟨g, 7, none⟩ (x7)).setCell ⟨g, 8, none⟩ (x8)).setCell ⟨g, 9, none⟩ (x9)).setCell ⟨g, 10, none⟩ (x10)) = setL w g 0 [x0, x1, x2, x3, x4, x5, x6, x7, x8, x9, x10] := by
  simp only [setL, Nat.zero_add, Nat.reduceAdd]
theorem arr11 (x0 x1 x2 x3 x4 x5 x6 x7 x8 x9 x10 z0 z1 z2 z3 z4 z5 z6 z7 z8 z9 z10 : Value) : setA #[z0, z1, z2, z3, z4, z5, z6, z7, z8, z9, z10] 0 [x0, x1, x2, x3, x4, x5, x6, x7, x8, x9, x10] = #[x0, x1, x2, x3, x4, x5, x6, x7, x8, x9, x10] := by
  simp only [setA, List.setIfInBounds_toArray, List.set_cons_zero, List.set_cons_succ, Nat.zero_add, Nat.reduceAdd]
theorem row11 {w : World} {g : Nat} {t : TypeId} {z0 z1 z2 z3 z4 z5 z6 z7 z8 z9 z10 : Value} (h : w.heap[g]? = some (.cells #[z0, z1, z2, z3, z4, z5, z6, z7, z8, z9, z10] t (0, 0))) (x0 x1 x2 x3 x4 x5 x6 x7 x8 x9 x10 : Value) :
    ((((((((((((w.setCell ⟨g, 0, none⟩ (x0)).setCell ⟨g, 1, none⟩ (x1)).setCell ⟨g, 2, none⟩ (x2)).setCell ⟨g, 3, none⟩ (x3)).setCell ⟨g, 4, none⟩ (x4)).setCell ⟨g, 5, none⟩ (x5)).setCell ⟨g, 6, none⟩ (x6)).setCell ⟨g, 7, none⟩ (x7)).setCell ⟨g, 8, none⟩ (x8)).setCell ⟨g, 9, none⟩ (x9)).setCell ⟨g, 10, none⟩ (x10))).heap[g]? = some (.cells #[x0, x1, x2, x3, x4, x5, x6, x7, x8, x9, x10] t (0, 0)) := by
  rw [tower11]
  have h2 := row_setL [x0, x1, x2, x3, x4, x5, x6, x7, x8, x9, x10] w 0 _ h
  rw [arr11] at h2
  exact h2
theorem off11 {w : World} {g k : Nat} {ob : Obj} (h : w.heap[k]? = some ob) (hk : k ≠ g) (x0 x1 x2 x3 x4 x5 x6 x7 x8 x9 x10 : Value) : ((((((((((((w.setCell ⟨g, 0, none⟩ (x0)).setCell ⟨g, 1, none⟩ (x1)).setCell ⟨g, 2, none⟩ (x2)).setCell ⟨g, 3, none⟩ (x3)).setCell ⟨g, 4, none⟩ (x4)).setCell ⟨g, 5, none⟩ (x5)).setCell ⟨g, 6, none⟩ (x6)).setCell ⟨g, 7, none⟩ (x7)).setCell ⟨g, 8, none⟩ (x8)).setCell ⟨g, 9, none⟩ (x9)).setCell ⟨g, 10, none⟩ (x10))).heap[k]? = some ob := by
  rw [tower11]
  exact off_setL h hk _ _
theorem ext11 {a w : World} (h : Ext a w) {g : Nat} (hg : a.heap.size ≤ g) (x0 x1 x2 x3 x4 x5 x6 x7 x8 x9 x10 : Value) : Ext a ((((((((((((w.setCell ⟨g, 0, none⟩ (x0)).setCell ⟨g, 1, none⟩ (x1)).setCell ⟨g, 2, none⟩ (x2)).setCell ⟨g, 3, none⟩ (x3)).setCell ⟨g, 4, none⟩ (x4)).setCell ⟨g, 5, none⟩ (x5)).setCell ⟨g, 6, none⟩ (x6)).setCell ⟨g, 7, none⟩ (x7)).setCell ⟨g, 8, none⟩ (x8)).setCell ⟨g, 9, none⟩ (x9)).setCell ⟨g, 10, none⟩ (x10))) := by
  rw [tower11]
  exact ext_setL h hg _ _
theorem tower14 (w : World) (g : Nat) (x0 x1 x2 x3 x4 x5 x6 x7 x8 x9 x10 x11 x12 x13 : Value) : ((((((((((((((w.setCell ⟨g, 0, none⟩ (x0)).setCell ⟨g, 1, none⟩ (x1)).setCell ⟨g, 2, none⟩ (x2)).setCell ⟨g, 3, none⟩ (x3)).setCell ⟨g, 4, none⟩ (x4)).setCell ⟨g, 5, none⟩ (x5)).setCell ⟨g, 6, none⟩ (x6)).setCell ⟨g, 7, none⟩ (x7)).setCell ⟨g, 8, none⟩ (x8)).setCell ⟨g, 9, none⟩ (x9)).setCell ⟨g, 10, none⟩ (x10)).setCell ⟨g, 11, none⟩ (x11)).setCell ⟨g, 12, none⟩ (x12)).setCell ⟨g, 13, none⟩ (x13)) = setL w g 0 [x0, x1, x2, x3, x4, x5, x6, x7, x8, x9, x10, x11, x12, x13] := by
  simp only [setL, Nat.zero_add, Nat.reduceAdd]
theorem arr14 (x0 x1 x2 x3 x4 x5 x6 x7 x8 x9 x10 x11 x12 x13 z0 z1 z2 z3 z4 z5 z6 z7 z8 z9 z10 z11 z12 z13 : Value) : setA #[z0, z1, z2, z3, z4, z5, z6, z7, z8, z9, z10, z11, z12, z13] 0 [x0, x1, x2, x3, x4, x5, x6, x7, x8, x9, x10, x11, x12, x13] = #[x0, x1, x2, x3, x4, x5, x6, x7, x8, x9, x10, x11, x12, x13] := by
  simp only [setA, List.setIfInBounds_toArray, List.set_cons_zero, List.set_cons_succ, Nat.zero_add, Nat.reduceAdd]
theorem row14 {w : World} {g : Nat} {t : TypeId} {z0 z1 z2 z3 z4 z5 z6 z7 z8 z9 z10 z11 z12 z13 : Value} (h : w.heap[g]? = some (.cells #[z0, z1, z2, z3, z4, z5, z6, z7, z8, z9, z10, z11, z12, z13] t (0, 0))) (x0 x1 x2 x3 x4 x5 x6 x7 x8 x9 x10 x11 x12 x13 : Value) :
    (((((((((((((((w.setCell ⟨g, 0, none⟩ (x0)).setCell ⟨g, 1, none⟩ (x1)).setCell ⟨g, 2, none⟩ (x2)).setCell ⟨g, 3, none⟩ (x3)).setCell ⟨g, 4, none⟩ (x4)).setCell ⟨g, 5, none⟩ (x5)).setCell ⟨g, 6, none⟩ (x6)).setCell ⟨g, 7, none⟩ (x7)).setCell ⟨g, 8, none⟩ (x8)).setCell ⟨g, 9, none⟩ (x9)).setCell ⟨g, 10, none⟩ (x10)).setCell ⟨g, 11, none⟩ (x11)).setCell ⟨g, 12, none⟩ (x12)).setCell ⟨g, 13, none⟩ (x13))).heap[g]? = some (.cells #[x0, x1, x2, x3, x4, x5, x6, x7, x8, x9, x10, x11, x12, x13] t (0, 0)) := by
  rw [tower14]
  have h2 := row_setL [x0, x1, x2, x3, x4, x5, x6, x7, x8, x9, x10, x11, x12, x13] w 0 _ h
  rw [arr14] at h2
  exact h2
theorem off14 {w : World} {g k : Nat} {ob : Obj} (h : w.heap[k]? = some ob) (hk : k ≠ g) (x0 x1 x2 x3 x4 x5 x6 x7 x8 x9 x10 x11 x12 x13 : Value) : (((((((((((((((w.setCell ⟨g, 0, none⟩ (x0)).setCell ⟨g, 1, none⟩ (x1)).setCell ⟨g, 2, none⟩ (x2)).setCell ⟨g, 3, none⟩ (x3)).setCell ⟨g, 4, none⟩ (x4)).setCell ⟨g, 5, none⟩ (x5)).setCell ⟨g, 6, none⟩ (x6)).setCell ⟨g, 7, none⟩ (x7)).setCell ⟨g, 8, none⟩ (x8)).setCell ⟨g, 9, none⟩ (x9)).setCell ⟨g, 10, none⟩ (x10)).setCell ⟨g, 11, none⟩ (x11)).setCell ⟨g, 12, none⟩ (x12)).setCell ⟨g, 13, none⟩ (x13))).heap[k]? = some ob := by
  rw [tower14]
  exact off_setL h hk _ _
theorem ext14 {a w : World} (h : Ext a w) {g : Nat} (hg : a.heap.size ≤ g) (x0 x1 x2 x3 x4 x5 x6 x7 x8 x9 x10 x11 x12 x13 : Value) : Ext a (((((((((((((((w.setCell ⟨g, 0, none⟩ (x0)).setCell ⟨g, 1, none⟩ (x1)).setCell ⟨g, 2, none⟩ (x2)).setCell ⟨g, 3, none⟩ (x3)).setCell ⟨g, 4, none⟩ (x4)).setCell ⟨g, 5, none⟩ (x5)).setCell ⟨g, 6, none⟩ (x6)).setCell ⟨g, 7, none⟩ (x7)).setCell ⟨g, 8, none⟩ (x8)).setCell ⟨g, 9, none⟩ (x9)).setCell ⟨g, 10, none⟩ (x10)).setCell ⟨g, 11, none⟩ (x11)).setCell ⟨g, 12, none⟩ (x12)).setCell ⟨g, 13, none⟩ (x13))) := by
  rw [tower14]
  exact ext_setL h hg _ _
theorem arr22 (x0 x1 x2 x3 x4 x5 x6 x7 x8 x9 x10 x11 x12 x13 x14 x15 x16 x17 x18 x19 x20 x21 z0 z1 z2 z3 z4 z5 z6 z7 z8 z9 z10 z11 z12 z13 z14 z15 z16 z17 z18 z19 z20 z21 : Value) : setA #[z0, z1, z2, z3, z4, z5, z6, z7, z8, z9, z10, z11, z12, z13, z14, z15, z16, z17, z18, z19, z20, z21] 0 [x0, x1, x2, x3, x4, x5, x6, x7, x8, x9, x10, x11, x12, x13, x14, x15, x16, x17, x18, x19, x20, x21] = #[x0, x1, x2, x3, x4, x5, x6, x7, x8, x9, x10, x11, x12, x13, x14, x15, x16, x17, x18, x19, x20, x21] := by
  simp only [setA, List.setIfInBounds_toArray, List.set_cons_zero, List.set_cons_succ, Nat.zero_add, Nat.reduceAdd]
theorem tower11a (w : World) (g : Nat) (x0 x1 x2 x3 x4 x5 x6 x7 x8 x9 x10 : Value) : (((((((((((w.setCell ⟨g, 0, none⟩ (x0)).setCell ⟨g, 1, none⟩ (x1)).setCell ⟨g, 2, none⟩ (x2)).setCell ⟨g, 3, none⟩ (x3)).setCell ⟨g, 4, none⟩ (x4)).setCell ⟨g, 5, none⟩ (x5)).setCell ⟨g, 6, none⟩ (x6)).setCell ⟨g, 7, none⟩ (x7)).setCell ⟨g, 8, none⟩ (x8)).setCell ⟨g, 9, none⟩ (x9)).setCell ⟨g, 10, none⟩ (x10)) = setL w g 0 [x0, x1, x2, x3, x4, x5, x6, x7, x8, x9, x10] := by
  simp only [setL, Nat.zero_add, Nat.reduceAdd]
theorem arr11a (x0 x1 x2 x3 x4 x5 x6 x7 x8 x9 x10 z0 z1 z2 z3 z4 z5 z6 z7 z8 z9 z10 z11 z12 z13 z14 z15 z16 z17 z18 z19 z20 z21 : Value) : setA #[z0, z1, z2, z3, z4, z5, z6, z7, z8, z9, z10, z11, z12, z13, z14, z15, z16, z17, z18, z19, z20, z21] 0 [x0, x1, x2, x3, x4, x5, x6, x7, x8, x9, x10] = #[x0, x1, x2, x3, x4, x5, x6, x7, x8, x9, x10, z11, z12, z13, z14, z15, z16, z17, z18, z19, z20, z21] := by
  simp only [setA, List.setIfInBounds_toArray, List.set_cons_zero, List.set_cons_succ, Nat.zero_add, Nat.reduceAdd]
theorem tower11b (w : World) (g : Nat) (x0 x1 x2 x3 x4 x5 x6 x7 x8 x9 x10 : Value) : (((((((((((w.setCell ⟨g, 11, none⟩ (x0)).setCell ⟨g, 12, none⟩ (x1)).setCell ⟨g, 13, none⟩ (x2)).setCell ⟨g, 14, none⟩ (x3)).setCell ⟨g, 15, none⟩ (x4)).setCell ⟨g, 16, none⟩ (x5)).setCell ⟨g, 17, none⟩ (x6)).setCell ⟨g, 18, none⟩ (x7)).setCell ⟨g, 19, none⟩ (x8)).setCell ⟨g, 20, none⟩ (x9)).setCell ⟨g, 21, none⟩ (x10)) = setL w g 11 [x0, x1, x2, x3, x4, x5, x6, x7, x8, x9, x10] := by
  simp only [setL, Nat.reduceAdd]
theorem arr11b (x0 x1 x2 x3 x4 x5 x6 x7 x8 x9 x10 z0 z1 z2 z3 z4 z5 z6 z7 z8 z9 z10 z11 z12 z13 z14 z15 z16 z17 z18 z19 z20 z21 : Value) : setA #[z0, z1, z2, z3, z4, z5, z6, z7, z8, z9, z10, z11, z12, z13, z14, z15, z16, z17, z18, z19, z20, z21] 11 [x0, x1, x2, x3, x4, x5, x6, x7, x8, x9, x10] = #[z0, z1, z2, z3, z4, z5, z6, z7, z8, z9, z10, x0, x1, x2, x3, x4, x5, x6, x7, x8, x9, x10] := by
  simp only [setA, List.setIfInBounds_toArray, List.set_cons_zero, List.set_cons_succ, Nat.reduceAdd]
end
section
open Go Go.RowKit
theorem sget (A : Option Addr) (l : List Nat) (n c : Nat) (a x : Int) (X p : Nat) (q : Int) (hg : getS l a x = (X, p, q)) (w : World) (hL : Laid w) (hb : By w A n c l) (hm : n ≤ 9000000000000000000) :
    Calls Tryz.prog 237 #[.slice A n c, .int .i64 a, .int .i64 x] w fun e w' => e = .returned (.tuple #[.int .i64 (X : Int), .int .i64 (p : Int), .int .i64 q]) ∧ w' = w := by
  have h := oget_any A l n c _ a x w hL hb.len hb.rd hm
  rw [hg] at h
  exact h.mono fun _ _ ⟨h, hw⟩ => ⟨h, by subst hw; rfl⟩
structure PaS (w W : World) (g g1 : Nat) (x y a b d : Int) : Prop where
  bal : W.heap[g]? = some (.cells #[.int .i64 x, .int .i64 y] 38 (0, 0))
  num : W.heap[g1]? = some (.cells #[.int .i64 a, .int .i64 b, .int .i64 d] 233 (0, 0))
  ext : Ext w W
  ne : g ≠ g1 ∧ w.heap.size ≤ g ∧ w.heap.size ≤ g1
theorem PaS.make (w : World) : PaS w ((w.alloc (.cells #[.int .i64 0, .int .i64 0] 38)).alloc (.cells #[.int .i64 0, .int .i64 0, .int .i64 0] 233)) w.heap.size (w.heap.size + 1) 0 0 0 0 0 := by
  refine ⟨keep_row ((Ext.refl _).alloc _) (heap_alloc_new w _), ?_, ((Ext.refl w).alloc _).alloc _, by omega⟩
  have h := heap_alloc_new (w.alloc (.cells #[.int .i64 0, .int .i64 0] 38)) (.cells #[.int .i64 0, .int .i64 0, .int .i64 0] 233)
  rw [World.size_alloc] at h
  exact h
section
variable {w W W' : World} {g g1 : Nat} {x y a b d : Int}
theorem PaS.mono (h : PaS w W g g1 x y a b d) (k : Ext W W') : PaS w W' g g1 x y a b d := ⟨keep_row k h.bal, keep_row k h.num, h.ext.trans k, h.ne⟩
theorem PaS.put0 (h : PaS w W g g1 x y a b d) (v : Int) : PaS w (W.setCell ⟨g1, 0, none⟩ (.int .i64 v)) g g1 x y v b d := ⟨off_setL h.bal h.ne.1 [.int .i64 v] 0, row_set1 h.num _, ext_setL h.ext h.ne.2.2 [.int .i64 v] 0, h.ne⟩
theorem PaS.put1 (h : PaS w W g g1 x y a b d) (v : Int) : PaS w (W.setCell ⟨g1, 1, none⟩ (.int .i64 v)) g g1 x y a v d := ⟨off_setL h.bal h.ne.1 [.int .i64 v] 1, row_set1 h.num _, ext_setL h.ext h.ne.2.2 [.int .i64 v] 1, h.ne⟩
theorem PaS.put2 (h : PaS w W g g1 x y a b d) (v : Int) : PaS w (W.setCell ⟨g1, 2, none⟩ (.int .i64 v)) g g1 x y a b v := ⟨off_setL h.bal h.ne.1 [.int .i64 v] 2, row_set1 h.num _, ext_setL h.ext h.ne.2.2 [.int .i64 v] 2, h.ne⟩
theorem PaS.ball (h : PaS w W g g1 x y a b d) (u v : Int) : PaS w ((W.setCell ⟨g, 0, none⟩ (.int .i64 u)).setCell ⟨g, 1, none⟩ (.int .i64 v)) g g1 u v a b d :=
  ⟨row_set1 (row_set1 h.bal (.int .i64 u)) (.int .i64 v), off_setL h.num (fun e => h.ne.1 e.symm) [.int .i64 u, .int .i64 v] 0, ext_setL h.ext h.ne.2.1 [.int .i64 u, .int .i64 v] 0, h.ne⟩
end
end
end Go.Proofs.YtmbmpabjclkhlaaGreatDoor

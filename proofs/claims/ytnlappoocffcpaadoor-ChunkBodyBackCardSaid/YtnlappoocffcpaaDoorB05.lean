/-
  The contracts of the library's AppendSeq and Collect over a heap's missing chunks, and of Missing.
-/
import Derived.Test.YtnlappoocffcpaaDoorB00
import Derived.Test.YtnlappoocffcpaaDoorB01
import Derived.Test.YtnlappoocffcpaaDoorB02
import Derived.Test.YtnlappoocffcpaaDoorB04
import Derived.Deep.RegionHeld3
import Derived.OwnWalk
import Derived.Deep.RegionLaw
namespace Go.Proofs.YtnlappoocffcpaaDoor
set_option maxRecDepth 100000
section
open Go Go.RowKit Go.Shelf
attribute [local go_sem] Oper.semAt_some
theorem mod_of_belowZ {b : Nat} {W W' : World} (h : Below b W W') : Mod (fun k => b ≤ k) W W' := ⟨h.os, h.tape, h.output, Below.size h, fun k _ hg => h.block k (by omega)⟩
set_option maxHeartbeats 1600000 in
theorem zappendSeq_of (bl h count bm nb : Nat) (f : Int → Option Lst) (hc8 : count ≤ 8) (w : World) (hlt : bl < w.heap.size ∧ h < w.heap.size ∧ bm < w.heap.size) (hcl : w.cell? ⟨bl, 0, none⟩ = some (.pointer (some ⟨h, 0, none⟩)))
    (hz1 : w.cell? ⟨h, 1, none⟩ = some (.int .i64 (count : Int))) (hz2 : w.cell? ⟨h, 2, none⟩ = some (.map (some bm))) (hm : MapZ w bm nb f) :
    Calls Tryd.prog 32 #[.slice none 0 0, .func (.func 33) #[] #[.pointer (some ⟨bl, 0, none⟩)]] w fun e w' =>
      ∃ v, e = .returned v ∧ w'.ownsRow w.heap.size 3 1 v (missZ f count).length ((missZ f count).map fun k : Nat => Value.int .i64 (k : Int)) ∧ Ext w w' := by
  obtain ⟨i0, hi, hz0', hz1', hz2'⟩ := info_parts int_infoZ
  have bO := Boxed.new w 48 (.slice none 0 0)
  have hE : Ext w (w.alloc (.cells #[.slice none 0 0] 48)) := (Ext.refl w).alloc _
  have hst := zmiss_stops 8 (by omega) bl (fun i => w.heap.size ≤ i) h count bm nb f hc8 (w.alloc (.cells #[.slice none 0 0] 48)) ⟨by omega, by omega, by omega⟩ (ext_of_cell hE hcl) (ext_of_cell hE hz1) (ext_of_cell hE hz2) (hm.ext hE)
  have HST := Lib.hid hst
  have HE := Lib.hid hE
  clear hst hcl hz1 hz2 hm hE hlt
  refine calls_marks Tryd.func32 rfl ?_
  simp only [Tryd.ntmps32, List.size_toArray, List.length_cons, List.length_nil, Nat.reduceAdd, Nat.reduceSub, Array.replicate_succ, Array.replicate_zero, List.push_toArray, List.append_toArray, List.nil_append, List.cons_append]
  go_wp2_with fail
  refine (wpIn_wide (n := 9)).1 ?_
  refine wpIn_rangeFunc_ownG (F := Fence.wide) (n := 9) rfl (by omega) (gf := 33) (lb := #[.pointer (some ⟨bl, 0, none⟩)]) rfl trivial (enters_of Tryd.func33 (by kernel_rfl) rfl)
    HST.out (fun h k => h.trans k fun _ hi => .inl hi) (fun W l o o' hl ho _ _ => mod_put (w := w) l o o' (fun k hk => hk) (Nat.le_trans HE.out.size hl) ho) (Below.refl _ _) (fun _ => rfl)
    (fun pre W => (∃ v, Boxed W w.heap.size 48 v ∧ W.ownsRow w.heap.size 3 1 v pre.length (pre.map fun x : Nat => Value.int .i64 (x : Int)) ∧ True) ∧ Below w.heap.size w W)
    (fun _ _ _ => False)
    (OwnFrom.and (Own.from (holdsRow_own w.heap.size w.heap.size 48 3 1 (fun pre : List Nat => pre.length) (fun pre : List Nat => pre.map fun x : Nat => Value.int .i64 (x : Int)) (fun _ _ => True)) _) (ownFrom_below (Nat.le_refl _) HE.out.size))
    (fun _ _ _ _ _ hs _ _ => hs)
    ⟨⟨_, bO, World.ownsRow_nil _ _ _ _, trivial⟩, HE.out⟩
    (fun x => { tmps := #[.slice none 0 0, .func (.func 33) #[] #[.pointer (some ⟨bl, 0, none⟩)], .pointer (some ⟨w.heap.size, 0, none⟩), undef, .slice none 0 0, .int .i64 (x : Int), .func (.func 33) #[] #[.pointer (some ⟨bl, 0, none⟩)], .int .i64 (x : Int), undef, undef, undef, undef, undef], defers := [] }) ?assign ?body ?done ?stop
  case assign =>
    intro l x W K hK
    dsimp only [encN]
    gi_wp2
    exact hK
  case body =>
    rintro l pre x W ⟨⟨v, hv, hrow, _⟩, hB⟩ hlt
    have hc := hv.cell
    gi_wp2_with (gi_at_builtin; refine wpListIn_append_own _ rfl _ _ 48 rfl w.heap.size 3 i0 (.int .i64 0) 1 8 Tryd.underlying48 hi hz0' hz1' hz2' rfl (by decide) _ _ _ rfl (hrow.alloc _) ⟨W.heap.size, 0, none⟩ 1 1 [.int .i64 (x : Int)] rfl rfl (cell_one_new _ _ _) (by simp [Value.oneCell']) (by unfold maxLen; omega) (by omega) (by have := hB.size; simp; omega) ?_; intro v' w1 hown' hgrow _; obtain ⟨g', cap', rfl⟩ := ownsRow_succ hown'; obtain ⟨hv1, hv2, hr2, hk2, hb2⟩ := hv.appended (by decide) hrow hB.size (Nat.le_refl _) hown' hgrow; have hc1 := hv1.cell; have hf1 := hv1.frozen)
    exact ⟨hk2.from _, mod_of_belowZ hb2, ⟨_, hv2, by simpa using hr2, trivial⟩, hB.trans hb2⟩
  case done =>
    rintro D ys W hD hys ⟨⟨v, hv, hrow, _⟩, hB⟩ hK
    have hc := hv.cell
    subst hys
    have HRW := Lib.hid hrow
    have HBB := Lib.hid hB
    clear hrow hB
    go_wp2_with fail
    refine retM1 rfl hK (v := v) ?_ ?_
    · simp [results, Tryd.results32, go_sem]
    · exact ⟨v, rfl, ownsRow_putObj HRW.out _ hK rfl, HBB.out.trans (belowK_b (w := w) (Nat.le_refl _) W D _ _ (Nat.le_trans HE.out.size hD) hK rfl rfl)⟩
  case stop =>
    rintro D c pre W _ _ h _
    exact h.elim
set_option maxHeartbeats 800000 in
theorem zcollect_of (bl h count bm nb : Nat) (f : Int → Option Lst) (hc8 : count ≤ 8) (w : World) (hlt : bl < w.heap.size ∧ h < w.heap.size ∧ bm < w.heap.size) (hcl : w.cell? ⟨bl, 0, none⟩ = some (.pointer (some ⟨h, 0, none⟩)))
    (hz1 : w.cell? ⟨h, 1, none⟩ = some (.int .i64 (count : Int))) (hz2 : w.cell? ⟨h, 2, none⟩ = some (.map (some bm))) (hm : MapZ w bm nb f) :
    Calls Tryd.prog 28 #[.func (.func 33) #[] #[.pointer (some ⟨bl, 0, none⟩)]] w fun e w' =>
      ∃ v, e = .returned v ∧ w'.ownsRow w.heap.size 3 1 v (missZ f count).length ((missZ f count).map fun k : Nat => Value.int .i64 (k : Int)) ∧ Ext w w' := by
  have HA := Lib.hid (zappendSeq_of bl h count bm nb f hc8 w hlt hcl hz1 hz2 hm)
  clear hlt hcl hz1 hz2 hm
  go_enter Tryd.func28, Tryd.ntmps28
  go_wp2_with fail
  refine HA.out.mono ?_
  rintro e w1 ⟨v, rfl, hrow, hx⟩
  have HR := Lib.hid hrow
  have HX := Lib.hid hx
  clear hrow hx
  go_wp2_with fail
  go_ret
  exact ⟨v, rfl, HR.out, HX.out⟩
set_option maxHeartbeats 800000 in
theorem zmissing_yes {w : World} {h count bm nb : Nat} {f : Int → Option Lst} (z : ZH w h count bm nb f) :
    Calls Tryd.prog 20 #[.pointer (some ⟨h, 0, none⟩)] w fun e w' => ∃ A c, e = .returned (.slice A (missZ f count).length c) ∧ w'.ownsRow w.heap.size 3 1 (.slice A (missZ f count).length c) (missZ f count).length ((missZ f count).map fun k : Nat => Value.int .i64 (k : Int)) ∧ Ext w w' := by
  have HM := Lib.hid (zmade_yes h w z.cells.1)
  have hE : Ext w (w.alloc (.cells #[.pointer (some ⟨h, 0, none⟩)] 45)) := (Ext.refl w).alloc _
  have z2 := z.ext hE
  have hlt : w.heap.size < (w.alloc (.cells #[.pointer (some ⟨h, 0, none⟩)] 45)).heap.size := by simp
  have hs := zcollect_of w.heap.size h count bm nb f z.cnt.2 _ ⟨hlt, z2.lt, z2.map.lt⟩ (cell_of_row _ w.heap.size 0 _ _ _ (heap_alloc_new w _)) z2.cells.2.1 z2.cells.2.2 z2.map
  have HS := Lib.hid hs
  have HE := Lib.hid hE
  clear hs hE hlt z2 z
  go_enter Tryd.func20, Tryd.ntmps20
  go_wp2_with fail
  refine HM.out.mono ?_
  rintro e w1 ⟨rfl, rfl⟩
  go_wp2_with fail
  refine (zmissing_of (some ⟨h, 0, none⟩) _).mono ?_
  rintro e w1 ⟨rfl, rfl⟩
  go_wp2_with fail
  refine HS.out.mono ?_
  rintro e w2 ⟨v, rfl, hrow, hx⟩
  obtain ⟨A, c, rfl, hn, hc⟩ := own_form hrow
  have HR := Lib.hid hrow
  have HX := Lib.hid (HE.out.trans hx)
  clear hrow hx
  go_wp2_with fail
  go_ret
  refine ⟨A, c, rfl, ⟨HR.out.1, ?_⟩, HX.out⟩
  rcases HR.out.2 with h0 | ⟨g, cap, cur, h1, h2, h3⟩
  · exact .inl h0
  · exact .inr ⟨g, cap, cur, h1, Nat.le_trans HE.out.size h2, h3⟩
end
section
open Go Go.RowKit Go.Maps
section
variable {w w' : World} {h count bm nb : Nat} {f : Int → Option Lst}
end
end
section
open Go Go.RowKit Go.Maps
section
variable {w : World} {p : Option Addr}
end
end
section
open Go Go.RowKit
def lsOf (L : List Lst) : List (List Nat) := L.map fun a => a.l
def joinE (l : List (List Nat)) : Int := if joinB l = true then 0 else 2
def joinO (l : List (List Nat)) : List Nat := if joinB l = true then l.flatten else []
theorem joinB_no {l : List (List Nat)} {k : Nat} (hk : k < l.length) (h : fitsC k l.length (l.getD k []).length = false) : joinB l = false := by
  cases hj : joinB l with
  | false => rfl
  | true =>
    have := (joinB_iff.1 hj).2 k hk
    rw [h] at this
    cases this
theorem joinB_len {l : List (List Nat)} (h : ¬ (1 ≤ l.length ∧ l.length ≤ 8)) : joinB l = false := by
  cases hj : joinB l with
  | false => rfl
  | true =>
    have h1 := (joinB_iff.1 hj).1
    have := (join_len hj).1
    omega
theorem lsts_parts {w : World} {B : Nat} {A : Option Addr} {n c : Nat} {L : List Lst} (h : Lsts w B A n c L) : Parts w B A n (L.map fun a => (Lst.val a, a.l)) := by
  refine ⟨by rw [List.length_map]; exact h.len, fun hn => ?_, fun p hp => ?_⟩
  · obtain ⟨g, o, e, hg, hc⟩ := h.rd hn
    refine ⟨g, o, e, hg, fun j p hp => ?_⟩
    rw [List.getElem?_map] at hp
    obtain ⟨a, ha, rfl⟩ := Option.map_eq_some_iff.1 hp
    exact hc j a ha
  · obtain ⟨a, ha, rfl⟩ := List.mem_map.1 hp
    exact ⟨a.A, a.n, a.c, rfl, h.each a ha⟩
theorem cat_parts (L : List Lst) : cat (L.map fun a => (Lst.val a, a.l)) = (lsOf L).flatten := by
  unfold cat lsOf
  rw [List.flatMap_def, List.map_map]
  rfl
theorem lsOf_get {L : List Lst} {k : Nat} {a : Lst} (h : L[k]? = some a) : (lsOf L).getD k [] = a.l := by
  unfold lsOf
  rw [List.getD_eq_getElem?_getD, List.getElem?_map, h]; rfl
set_option maxHeartbeats 1000000 in
theorem zjoin_of {w : World} (A : Option Addr) (n c : Nat) (L : List Lst) (h : Lsts w w.heap.size A n c L) :
    Calls Tryd.prog 18 #[.slice A n c] w fun e w' => ∃ A' N' c', e = .returned (.tuple #[.slice A' N' c', .int .i64 (joinE (lsOf L))]) ∧ By w' A' N' c' (joinO (lsOf L)) ∧ (∀ p, A' = some p → w.heap.size ≤ p.block) ∧ Ext w w' := by
  have HL := Lib.hid h
  have hcap := h.cap
  have hmost := h.most
  have hlen : (lsOf L).length = n := by unfold lsOf; rw [List.length_map]; exact h.len
  have HLEN := Lib.hid hlen
  clear h hlen
  by_cases hc : 1 ≤ n ∧ n ≤ 8
  · obtain ⟨hc1, hc8⟩ := hc
    have hin : inZ 1 (n : Int) 8 = true := inZ_iff.2 (by omega)
    have HIN := Lib.hid hin
    clear hin
    go_enter Tryd.func18, Tryd.ntmps18
    go_wp2_with fail
    refine (zcount_of _ _).mono ?_
    rw [HIN.out]
    rintro e w1 ⟨rfl, rfl⟩
    go_wp2_with fail
    go_loopw [12] (fun i wr => ∃ k : Nat, k ≤ n ∧ i = .int .i64 (k : Int) ∧ wr = w ∧ Hid (∀ j, j < k → fitsC j n ((lsOf L).getD j []).length = true)) (fun i _ => n - (intOf i).toNat)
    case atStart => exact ⟨0, by omega, by simp, rfl, Lib.hid fun j hj => by omega⟩
    case round =>
      obtain ⟨k, hk, rfl, rfl, HF⟩ := hrel
      by_cases hlt : k < n
      · obtain ⟨g, o, a, hA, hg, ha, hby, hcell⟩ := HL.out.at_ hlt
        subst hA
        have HGD := Lib.hid (lsOf_get ha)
        have HBL : Hid (a.l.length = a.n) := Lib.hid hby.len
        obtain ⟨aA, an, ac, al⟩ := a
        clear ha hby
        dsimp only at hcell
        cases hf : fitsC k n an with
        | true =>
          have HM := Lib.hid (zmay_of n ⟨hc1, hc8⟩ (k : Int) aA an ac wr)
          rw [fitsZ_nat, hf] at HM
          have HFK := Lib.hid hf
          clear hf
          go_wp2_with fail
          refine HM.out.mono ?_
          rintro e w1 ⟨rfl, rfl⟩
          go_wp2_with fail
          go_roundw
          case rel => exact ⟨k + 1, by omega, by go_num, (by first | rfl | trivial), Lib.hid fun j hj => by
            by_cases hjk : j = k
            · subst hjk
              rw [HGD.out, HBL.out]
              exact HFK.out
            · exact HF.out j (by omega)⟩
          case measure => simp [intOf]; omega
        | false =>
          have HM := Lib.hid (zmay_of n ⟨hc1, hc8⟩ (k : Int) aA an ac wr)
          rw [fitsZ_nat, hf] at HM
          have hno : joinB (lsOf L) = false := joinB_no (k := k) (by rw [HLEN.out]; exact hlt) (by rw [HLEN.out, HGD.out, HBL.out]; exact hf)
          have HNO := Lib.hid hno
          clear hf hno
          go_wp2_with fail
          refine HM.out.mono ?_
          rintro e w1 ⟨rfl, rfl⟩
          go_wp2_with fail
          refine bodyPost_ret (v := .tuple #[.slice none 0 0, .int .i64 2]) (by simp [results, Tryd.results18, go_sem]) rfl ?_
          refine ⟨none, 0, 0, by unfold joinE; rw [HNO.out]; rfl, by unfold joinO; rw [HNO.out]; exact By.nil_ _, (fun p hp => by cases hp), Ext.refl _⟩
      · obtain rfl : k = n := by omega
        have hyes : joinB (lsOf L) = true := joinB_iff.2 ⟨by rw [HLEN.out]; exact hc1, fun j hj => by rw [HLEN.out] at hj ⊢; exact HF.out j hj⟩
        have hfl := (join_len hyes).2.2
        have hj := join_any A k c (L.map fun a => (Lst.val a, a.l)) wr (lsts_parts HL.out) (by omega) (by rw [cat_parts]; omega)
        rw [cat_parts] at hj
        have HJ := Lib.hid hj
        have HY := Lib.hid hyes
        have hbt : ∀ b ∈ (lsOf L).flatten, b < 256 := fun b hb => by
          obtain ⟨x, hx, hbx⟩ := List.mem_flatten.1 hb
          obtain ⟨a, ha, rfl⟩ := List.mem_map.1 hx
          exact (HL.out.each a ha).rd.lt b hbx
        have HBT := Lib.hid hbt
        clear hyes hfl hj hbt
        go_wp2_with fail
        refine HJ.out.mono ?_
        rintro e w1 ⟨A', c', rfl, hown, hx⟩
        have HO := Lib.hid hown
        have HX : Hid (Ext wr w1) := Lib.hid hx
        clear hown hx
        go_wp2_with fail
        refine bodyPost_ret (v := .tuple #[.slice A' (lsOf L).flatten.length c', .int .i64 0]) (by simp [results, Tryd.results18, go_sem]) rfl ?_
        refine ⟨A', _, c', by unfold joinE; rw [HY.out]; rfl, by unfold joinO; rw [HY.out]; exact Bs.of_own HO.out HBT.out, (fun p hp => (own_fresh HO.out p hp).1), HX.out⟩
  · have hin : inZ 1 (n : Int) 8 = false := by unfold inZ; exact decide_eq_false (by omega)
    have HIN := Lib.hid hin
    have hno : joinB (lsOf L) = false := joinB_len (by rw [HLEN.out]; exact hc)
    have HNO := Lib.hid hno
    clear hin hno hc
    go_enter Tryd.func18, Tryd.ntmps18
    go_wp2_with fail
    refine (zcount_of _ _).mono ?_
    rw [HIN.out]
    rintro e w1 ⟨rfl, rfl⟩
    go_wp2_with fail
    refine bodyPost_ret (v := .tuple #[.slice none 0 0, .int .i64 2]) (by simp [results, Tryd.results18, go_sem]) rfl ?_
    refine ⟨none, 0, 0, by unfold joinE; rw [HNO.out]; rfl, by unfold joinO; rw [HNO.out]; exact By.nil_ _, (fun p hp => by cases hp), Ext.refl _⟩
end
section
open Go Go.RowKit
theorem lsts_own {w : World} {b b' : Nat} {v v' : Value} {L : List Lst} (hrow : w.ownsRow b 22 1 v L.length (L.map Lst.val)) (hok : LsOk w b' v' L) : ∃ A c, v = .slice A L.length c ∧ Lsts w w.heap.size A L.length c L := by
  obtain ⟨A, c, rfl, h1, h2⟩ := own_form hrow
  refine ⟨A, c, rfl, rfl, h1, h2, fun a ha => (hok a ha).1, fun hn => ?_, fun hA => ?_⟩
  · rcases hrow.2 with ⟨_, h0⟩ | ⟨g, cap, cur, hv, hb, hg, _⟩
    · omega
    · injection hv with hA hN hC
      subst hA
      refine ⟨g, 0, rfl, (Array.getElem?_eq_some_iff.1 hg).1, fun j a ha => ?_⟩
      have hj : j < L.length := (List.getElem?_eq_some_iff.1 ha).1
      rw [Nat.zero_add, hrow.cellAt j (by omega), List.getElem?_map, ha]
      rfl
  · rcases hrow.2 with ⟨hv, _⟩ | ⟨g, cap, cur, hv, _⟩
    · injection hv
    · injection hv with hA' _ _
      rw [hA] at hA'
      cases hA'
theorem zsplit_lsts {w : World} (A : Option Addr) (n c : Nat) (bs : List Nat) (hb : By w A n c bs) (hn : n ≤ 640) :
    Calls Tryd.prog 17 #[.slice A n c] w fun e w' => ∃ A' c' L, e = .returned (.tuple #[.slice A' L.length c', .int .i64 0]) ∧ Lsts w' w'.heap.size A' L.length c' L ∧ lsOf L = splitL bs ∧ Ext w w' :=
  (zsplit_yes A n c bs hb hn).mono fun e w' ⟨v, L, he, hrow, hok, hl, hx⟩ => by
    obtain ⟨A', c', rfl, hL⟩ := lsts_own hrow hok
    exact ⟨A', c', L, he, hL, hl, hx⟩
end
section
open Go Go.RowKit
def zrowZ (k : Nat) : Obj := .cells (madeCells #[.int .u8 0] k) 5
theorem mk_zerosZ (k : Nat) (hk : k ≤ 1000) (w : World) : (Instr.makeSlice 22 (.int .i64 (k : Int)) (.int .i64 (k : Int))).run Tryd.prog w = .ok (.slice (some ⟨w.heap.size, 0, none⟩) k k) (w.alloc (zrowZ k)) := by
  obtain ⟨i0, hi, hz0, hz1, hz2⟩ := info_parts byte_info
  rw [run_make w 22 5 i0 (.int .u8 0) Tryd.underlying22 hi hz0 .i64 .i64 (k : Int) (k : Int) (by omega) (Int.le_refl _) (by rw [hz2]; omega) (by omega), hz1, Int.toNat_natCast, Nat.mul_one]
  rfl
theorem By.zrowZ (w : World) (k : Nat) (hk : k ≤ 1000) : By (w.alloc (zrowZ k)) (some ⟨w.heap.size, 0, none⟩) k k (List.replicate k 0) := by
  refine By.of_row (heap_alloc_new w (.cells (madeCells #[.int .u8 0] k) 5)) (fun j x hx => ?_) (by intro b hb; rw [(List.mem_replicate.1 hb).2]; omega) (by simp) (Nat.le_refl _) (by omega)
  have e : (madeCells #[Value.int .u8 0] k).toList = List.replicate k (Value.int .u8 0) := toList_madeCells_one _ _
  rw [← Array.getElem?_toList, e]
  rw [List.getElem?_replicate] at hx ⊢
  split at hx
  · rename_i hj
    injection hx with hx
    subst hx
    rw [if_pos hj]
    rfl
  · cases hx
theorem zsplit_two (k x y : Nat) (hk : k ≤ 640) (hs : (splitL (List.replicate k 0)).map List.length = [x, y]) (w : World) :
    Calls Tryd.prog 17 #[.slice (some ⟨w.heap.size, 0, none⟩) k k] (w.alloc (zrowZ k)) fun e w' => ∃ g o c A0 c0 A1 c1, e = .returned (.tuple #[.slice (some ⟨g, o, none⟩) 2 c, .int .i64 0]) ∧ 2 ≤ c ∧ c ≤ 9223372036854775807 ∧
      w'.cell? ⟨g, o + 0, none⟩ = some (.slice A0 x c0) ∧ w'.cell? ⟨g, o + 1, none⟩ = some (.slice A1 y c1) ∧ Ext w w' :=
  (zsplit_lsts _ k k _ (By.zrowZ w k (by omega)) hk).mono fun e w' ⟨A, c, L, he, hL, hl, hx⟩ => by
    have h2 : L.map (fun a => a.l.length) = [x, y] := by
      rw [← hl] at hs
      unfold lsOf at hs
      rw [List.map_map] at hs
      exact hs
    obtain ⟨a0, a1, rfl⟩ : ∃ a0 a1, L = [a0, a1] := by
      clear hL hs hl he
      have hn := congrArg List.length h2
      rw [List.length_map] at hn
      match L, hn with
      | [a0, a1], _ => exact ⟨a0, a1, rfl⟩
    injection h2 with h0 h2
    injection h2 with h1 _
    have h0 : a0.l.length = x := h0
    have h1 : a1.l.length = y := h1
    obtain ⟨g, o, rfl, hg, hc⟩ := hL.rd (by simp)
    have e0 := (hL.each a0 (by simp)).len
    have e1 := (hL.each a1 (by simp)).len
    have q0 := hc 0 a0 rfl
    have q1 := hc 1 a1 rfl
    rw [← e0, h0] at q0
    rw [← e1, h1] at q1
    exact ⟨g, o, c, _, _, _, _, he, hL.cap, hL.most, q0, q1, ((Ext.refl w).alloc _).trans hx⟩
theorem zsplit_empty (w : World) :
    Calls Tryd.prog 17 #[.slice none 0 0] w fun e w' => ∃ g o c A0 c0, e = .returned (.tuple #[.slice (some ⟨g, o, none⟩) 1 c, .int .i64 0]) ∧ 1 ≤ c ∧ c ≤ 9223372036854775807 ∧ w'.cell? ⟨g, o + 0, none⟩ = some (.slice A0 0 c0) ∧ Ext w w' :=
  (zsplit_lsts _ 0 0 _ (By.nil_ w) (by omega)).mono fun e w' ⟨A, c, L, he, hL, hl, hx⟩ => by
    have hs : (splitL []).map List.length = [0] := by decide +kernel
    have h2 : L.map (fun a => a.l.length) = [0] := by
      rw [← hl] at hs
      unfold lsOf at hs
      rw [List.map_map] at hs
      exact hs
    obtain ⟨a0, rfl⟩ : ∃ a0, L = [a0] := by
      have hn := congrArg List.length h2
      rw [List.length_map] at hn
      exact List.length_eq_one_iff.1 hn
    injection h2 with h0 _
    have h0 : a0.l.length = 0 := h0
    obtain ⟨g, o, rfl, hg, hc⟩ := hL.rd (by simp)
    have e0 := (hL.each a0 (by simp)).len
    have q0 := hc 0 a0 rfl
    rw [← e0, h0] at q0
    exact ⟨g, o, c, _, _, he, hL.cap, hL.most, q0, hx⟩
theorem zjoin_aw (V : World) (g1 g2 : Nat) (h1 : By V (some ⟨g1, 0, none⟩) 79 79 (List.replicate 79 0)) (h2 : By V (some ⟨g2, 0, none⟩) 1 1 (List.replicate 1 0)) :
    Calls Tryd.prog 18 #[.slice (some ⟨V.heap.size, 0, none⟩) 2 2] (V.alloc (.cells #[.slice (some ⟨g1, 0, none⟩) 79 79, .slice (some ⟨g2, 0, none⟩) 1 1] 22)) fun e w' => ∃ A' N' c', e = .returned (.tuple #[.slice A' N' c', .int .i64 2]) ∧ Ext V w' := by
  have hx := (Ext.refl V).alloc (.cells #[.slice (some ⟨g1, 0, none⟩) 79 79, .slice (some ⟨g2, 0, none⟩) 1 1] 22)
  have hr := heap_alloc_new V (.cells #[.slice (some ⟨g1, 0, none⟩) 79 79, .slice (some ⟨g2, 0, none⟩) 1 1] 22)
  refine (zjoin_of _ 2 2 [⟨some ⟨g1, 0, none⟩, 79, 79, List.replicate 79 0⟩, ⟨some ⟨g2, 0, none⟩, 1, 1, List.replicate 1 0⟩] ⟨rfl, Nat.le_refl _, by omega, fun a ha => ?_, fun _ => ⟨V.heap.size, 0, rfl, by simp, fun j a ha => ?_⟩, fun h => by cases h⟩).mono fun e w' ⟨A', N', c', he, _, _, hw⟩ => ⟨A', N', c', he.trans ?_, hx.trans hw⟩
  · rcases List.mem_cons.1 ha with rfl | ha
    · exact By.ext h1 hx
    · rcases List.mem_cons.1 ha with rfl | ha
      · exact By.ext h2 hx
      · cases ha
  · match j, ha with
    | 0, ha => injection ha with ha; subst ha; exact cell_of_row _ _ 0 _ _ _ hr
    | 1, ha => injection ha with ha; subst ha; exact cell_of_row _ _ 1 _ _ _ hr
    | j + 2, ha => cases ha
  · rw [show joinE (lsOf [⟨some ⟨g1, 0, none⟩, 79, 79, List.replicate 79 0⟩, ⟨some ⟨g2, 0, none⟩, 1, 1, List.replicate 1 0⟩]) = 2 from by
      show joinE [List.replicate 79 0, List.replicate 1 0] = 2
      decide +kernel]
theorem zjoin_aw1 (V : World) : Calls Tryd.prog 18 #[.slice (some ⟨V.heap.size + 1 + 1, 0, none⟩) 2 2] (((V.alloc (zrowZ 79)).alloc (zrowZ 1)).alloc (.cells #[.slice (some ⟨V.heap.size, 0, none⟩) 79 79, .slice (some ⟨V.heap.size + 1, 0, none⟩) 1 1] 22)) fun e w' => ∃ A' N' c', e = .returned (.tuple #[.slice A' N' c', .int .i64 2]) ∧ Ext V w' := by
  have h := zjoin_aw ((V.alloc (zrowZ 79)).alloc (zrowZ 1)) V.heap.size (V.heap.size + 1) ((By.zrowZ V 79 (by omega)).ext ((Ext.refl _).alloc _)) (by
    have := By.zrowZ (V.alloc (zrowZ 79)) 1 (by omega)
    rw [World.size_alloc] at this
    exact this)
  rw [World.size_alloc, World.size_alloc] at h
  exact h.mono fun e w' ⟨A', N', c', he, hx⟩ => ⟨A', N', c', he, (((Ext.refl V).alloc _).alloc _).trans hx⟩
theorem zjoin_aw2 (V : World) : Calls Tryd.prog 18 #[.slice (some ⟨V.heap.size + 1 + 1, 0, none⟩) 2 2] (((V.alloc (zrowZ 1)).alloc (zrowZ 79)).alloc (.cells #[.slice (some ⟨V.heap.size + 1, 0, none⟩) 79 79, .slice (some ⟨V.heap.size, 0, none⟩) 1 1] 22)) fun e w' => ∃ A' N' c', e = .returned (.tuple #[.slice A' N' c', .int .i64 2]) ∧ Ext V w' := by
  have h := zjoin_aw ((V.alloc (zrowZ 1)).alloc (zrowZ 79)) (V.heap.size + 1) V.heap.size (by
    have := By.zrowZ (V.alloc (zrowZ 1)) 79 (by omega)
    rw [World.size_alloc] at this
    exact this) ((By.zrowZ V 1 (by omega)).ext ((Ext.refl _).alloc _))
  rw [World.size_alloc, World.size_alloc] at h
  exact h.mono fun e w' ⟨A', N', c', he, hx⟩ => ⟨A', N', c', he, (((Ext.refl V).alloc _).alloc _).trans hx⟩
theorem zmissing_aw {w : World} {h bm : Nat} (z : ZH w h 2 bm 0 (fun _ => none)) :
    Calls Tryd.prog 20 #[.pointer (some ⟨h, 0, none⟩)] w fun e w' => ∃ g c, e = .returned (.slice (some ⟨g, 0, none⟩) 2 c) ∧ 2 ≤ c ∧ c ≤ 9223372036854775807 ∧ w'.cell? ⟨g, 0, none⟩ = some (.int .i64 0) ∧ w'.cell? ⟨g, 1, none⟩ = some (.int .i64 1) ∧ Ext w w' :=
  (zmissing_yes z).mono fun e w' ⟨A, c, he, hrow, hx⟩ => by
    have hm : missZ (fun _ => none) 2 = [0, 1] := by decide +kernel
    rw [hm] at he hrow
    obtain ⟨A', c', e2, h1, h2⟩ := own_form hrow
    injection e2 with e2 _ e3
    subst e2; subst e3
    rcases hrow.2 with ⟨_, h0⟩ | ⟨g, cap, cur, hv, _⟩
    · cases h0
    · injection hv with hA _ _
      subst hA
      exact ⟨g, c, he, h1, h2, hrow.cellAt 0 (by decide), hrow.cellAt 1 (by decide), hx⟩
theorem eqlH_some_nil (a : Addr) (w : World) : (binOp .eql 45 (.pointer (some a)) (.pointer none)).run Tryd.prog w = .ok (.bool false) w := by
  have h : ∀ d : Nat, (Op.equalIn (d + 1) 45 (.pointer (some a)) (.pointer none)).run Tryd.prog w = .ok false w := fun d => by
    simp [Op.equalIn, run_underlying Tryd.underlying45]
  simp only [binOp]
  simp [Op.equal, Op.maxDepth, h 9999]
set_option maxHeartbeats 3200000 in
theorem zawake_any (w : World) : Calls Tryd.prog 11 #[] w fun e w' => e = .returned (.bool true) ∧ Ext w w' := by
  have mk81 : ∀ w, (Instr.makeSlice 22 (.int .i64 81) (.int .i64 81)).run Tryd.prog w = .ok (.slice (some ⟨w.heap.size, 0, none⟩) 81 81) (w.alloc (zrowZ 81)) := mk_zerosZ 81 (by omega)
  have mk160 : ∀ w, (Instr.makeSlice 22 (.int .i64 160) (.int .i64 160)).run Tryd.prog w = .ok (.slice (some ⟨w.heap.size, 0, none⟩) 160 160) (w.alloc (zrowZ 160)) := mk_zerosZ 160 (by omega)
  have mk641 : ∀ w, (Instr.makeSlice 22 (.int .i64 641) (.int .i64 641)).run Tryd.prog w = .ok (.slice (some ⟨w.heap.size, 0, none⟩) 641 641) (w.alloc (zrowZ 641)) := mk_zerosZ 641 (by omega)
  have mk79 : ∀ w, (Instr.makeSlice 22 (.int .i64 79) (.int .i64 79)).run Tryd.prog w = .ok (.slice (some ⟨w.heap.size, 0, none⟩) 79 79) (w.alloc (zrowZ 79)) := mk_zerosZ 79 (by omega)
  have mk1 : ∀ w, (Instr.makeSlice 22 (.int .i64 1) (.int .i64 1)).run Tryd.prog w = .ok (.slice (some ⟨w.heap.size, 0, none⟩) 1 1) (w.alloc (zrowZ 1)) := mk_zerosZ 1 (by omega)
  go_enter Tryd.func11, Tryd.ntmps11
  go_wp2_with fail
  refine (zsplit_two 81 80 1 (by omega) (by decide +kernel) w).mono ?_
  rintro e w1 ⟨g1, o1, c1, A0, p0, A1, p1, rfl, l1, m1, q0, q1, hx1⟩
  have HX1 : Hid (Ext w w1) := Lib.hid hx1
  have HA := Lib.hid (And.intro q0 q1)
  clear q0 q1 hx1 mk81
  go_wp2_with fail
  refine (zsplit_two 160 80 80 (by omega) (by decide +kernel) w1).mono ?_
  rintro e w2 ⟨g2, o2, c2, A2, p2, A3, p3, rfl, l2, m2, q0, q1, hx1⟩
  have HA := Lib.hid (And.intro (ext_of_cell hx1 HA.out.1) (ext_of_cell hx1 HA.out.2))
  have HX2 : Hid (Ext w w2) := Lib.hid (HX1.out.trans hx1)
  have HB := Lib.hid (And.intro q0 q1)
  clear q0 q1 hx1 mk160 HX1
  go_wp2_with fail
  refine (zsplit_empty w2).mono ?_
  rintro e w3 ⟨g3, o3, c3, A4, p4, rfl, l3, m3, q0, hx1⟩
  have HA := Lib.hid (And.intro (ext_of_cell hx1 HA.out.1) (ext_of_cell hx1 HA.out.2))
  have HB := Lib.hid (And.intro (ext_of_cell hx1 HB.out.1) (ext_of_cell hx1 HB.out.2))
  have HX3 : Hid (Ext w w3) := Lib.hid (HX2.out.trans hx1)
  have HC := Lib.hid q0
  clear q0 hx1 HX2
  go_wp2_with fail
  refine (zsplit_no _ 641 641 (by omega) _).mono ?_
  rintro e w4 ⟨rfl, hx1⟩
  have hx1 : Ext w3 w4.drew := Below.drew (((Ext.refl w3).alloc (zrowZ 641)).trans hx1)
  have HX4 : Hid (Ext w w4.drew) := Lib.hid (HX3.out.trans hx1)
  have HA := Lib.hid (And.intro (ext_of_cell hx1 HA.out.1) (ext_of_cell hx1 HA.out.2))
  have HB := Lib.hid (And.intro (ext_of_cell hx1 HB.out.1) (ext_of_cell hx1 HB.out.2))
  have HC := Lib.hid (ext_of_cell hx1 HC.out)
  have HJ1 := Lib.hid (zjoin_aw1 w4.drew)
  have HJ2 := Lib.hid (zjoin_aw2 w4.drew)
  clear hx1 HX3 mk641
  go_upto_region 5 with (fail)
  go_region_law (go_simp; go_at_call 18; first
    | (refine (HJ1.out).mono ?_; rintro e w5 ⟨A5, n5, c5, rfl, hx⟩; have HX5 := Lib.hid hx; clear hx HJ1 HJ2)
    | (refine (HJ2.out).mono ?_; rintro e w5 ⟨A5, n5, c5, rfl, hx⟩; have HX5 := Lib.hid hx; clear hx HJ1 HJ2))
  all_goals
    go_wp2_with fail
    refine (znew_yes 2 (by omega) w5).mono ?_
    rintro e w6 ⟨h, bm, rfl, z, hx, _, _⟩
    have hx := HX5.out.trans hx
    have HX6 : Hid (Ext w w6) := Lib.hid (HX4.out.trans hx)
    have HA := Lib.hid (And.intro (ext_of_cell hx HA.out.1) (ext_of_cell hx HA.out.2))
    have HB := Lib.hid (And.intro (ext_of_cell hx HB.out.1) (ext_of_cell hx HB.out.2))
    have HC := Lib.hid (ext_of_cell hx HC.out)
    have HZ := Lib.hid z
    have hen := eqlH_some_nil
    clear hx z HX5 HX4 mk79 mk1
    go_wp2_with fail
    refine (zmissing_aw HZ.out).mono ?_
    rintro e w7 ⟨g7, c7, rfl, l7, m7, q0, q1, hx⟩
    have HX7 : Hid (Ext w w7) := Lib.hid (HX6.out.trans hx)
    have a0 : w7.cell? ⟨g1, o1, none⟩ = some (.slice A0 80 p0) := ext_of_cell hx HA.out.1
    have a1 := ext_of_cell hx HA.out.2
    have b0 : w7.cell? ⟨g2, o2, none⟩ = some (.slice A2 80 p2) := ext_of_cell hx HB.out.1
    have b1 := ext_of_cell hx HB.out.2
    have k0 : w7.cell? ⟨g3, o3, none⟩ = some (.slice A4 0 p4) := ext_of_cell hx HC.out
    clear hx HA HB HC HZ HX6 hen
    go_wp2_with fail
    trace_state
    go_ret
    exact ⟨rfl, HX7.out⟩
end
end Go.Proofs.YtnlappoocffcpaaDoor

/-
  The walk of WalNothing: behind faults that are all seen a slot is intact with what was put there last, or corrupt; it is intact where nothing of it is hurt.
-/
import Derived.Test.YtnlappoocffcpaaGreatDoorQ00
import Derived.Test.YtnlappoocffcpaaGreatDoorQ16
import Derived.Test.YtnlappoocffcpaaGreatDoorQ17
import Derived.Test.YtnlappoocffcpaaGreatDoorQ38
import Derived.Deep.DeepCutAuto
namespace Go.Proofs.YtnlappoocffcpaaGreatDoor
open Go Go.RowKit
abbrev P10 (w : World) (g q : Nat) (at_ : Nat) (x y : Int) (k : Nat) (cl sq : Int) (ok : Nat) (key old val : ByteArray) : Prop := w.cell? ⟨g, q, none⟩ = some (.int .u8 (at_ : Int)) ∧ w.cell? ⟨g, q + 1, none⟩ = some (.int .i64 x) ∧ w.cell? ⟨g, q + 2, none⟩ = some (.int .i64 y) ∧ w.cell? ⟨g, q + 3, none⟩ = some (.int .u8 (k : Int)) ∧ w.cell? ⟨g, q + 4, none⟩ = some (.int .i64 cl) ∧ w.cell? ⟨g, q + 5, none⟩ = some (.int .i64 sq) ∧ w.cell? ⟨g, q + 6, none⟩ = some (.int .u8 (ok : Int)) ∧ w.cell? ⟨g, q + 7, none⟩ = some (.string key) ∧ w.cell? ⟨g, q + 8, none⟩ = some (.string old) ∧ w.cell? ⟨g, q + 9, none⟩ = some (.string val)
abbrev R11 (w : World) (b : Nat) (ix : Int) (st : Int) (x y : Int) (k : Nat) (cl sq : Int) (ok : Nat) (key old val : ByteArray) : Prop := w.cell? ⟨b, 0, none⟩ = some (.int .i64 ix) ∧ w.cell? ⟨b, 1, none⟩ = some (.int .u8 st) ∧ w.cell? ⟨b, 2, none⟩ = some (.int .i64 x) ∧ w.cell? ⟨b, 3, none⟩ = some (.int .i64 y) ∧ w.cell? ⟨b, 4, none⟩ = some (.int .u8 (k : Int)) ∧ w.cell? ⟨b, 5, none⟩ = some (.int .i64 cl) ∧ w.cell? ⟨b, 6, none⟩ = some (.int .i64 sq) ∧ w.cell? ⟨b, 7, none⟩ = some (.int .u8 (ok : Int)) ∧ w.cell? ⟨b, 8, none⟩ = some (.string key) ∧ w.cell? ⟨b, 9, none⟩ = some (.string old) ∧ w.cell? ⟨b, 10, none⟩ = some (.string val)
theorem R11.of {w : World} {b : Nat} {t : TypeId} {ix st x y : Int} {k : Nat} {cl sq : Int} {ok : Nat} {key old val : ByteArray} (h : w.heap[b]? = some (.cells #[.int .i64 ix, .int .u8 st, .int .i64 x, .int .i64 y, .int .u8 (k : Int), .int .i64 cl, .int .i64 sq, .int .u8 (ok : Int), .string key, .string old, .string val] t (0, 0))) : R11 w b ix st x y k cl sq ok key old val :=
  ⟨cell_of_row w b 0 _ _ _ h, cell_of_row w b 1 _ _ _ h, cell_of_row w b 2 _ _ _ h, cell_of_row w b 3 _ _ _ h, cell_of_row w b 4 _ _ _ h, cell_of_row w b 5 _ _ _ h, cell_of_row w b 6 _ _ _ h, cell_of_row w b 7 _ _ _ h, cell_of_row w b 8 _ _ _ h, cell_of_row w b 9 _ _ _ h, cell_of_row w b 10 _ _ _ h⟩
theorem is_keep {w w' : World} {a : Addr} {v : Value} {g q : Nat} {at_ : Nat} {x y : Int} {k : Nat} {cl sq : Int} {ok : Nat} {key old val : ByteArray} {b : Nat} {ix st x2 y2 : Int} {k2 : Nat} {cl2 sq2 : Int} {ok2 : Nat} {key2 old2 val2 : ByteArray} (hx : Ext w w')
    (h : w.cell? a = some v ∧ P10 w g q at_ x y k cl sq ok key old val ∧ R11 w b ix st x2 y2 k2 cl2 sq2 ok2 key2 old2 val2) : w'.cell? a = some v ∧ P10 w' g q at_ x y k cl sq ok key old val ∧ R11 w' b ix st x2 y2 k2 cl2 sq2 ok2 key2 old2 val2 := by
  obtain ⟨r0, ⟨r1, r2, r3, r4, r5, r6, r7, r8, r9, r10⟩, r11, r12, r13, r14, r15, r16, r17, r18, r19, r20, r21⟩ := h
  have e : ∀ {p : Addr} {u : Value}, w.cell? p = some u → w'.cell? p = some u := fun {p _} hc => (Below.cell hx (p := p) (World.block_lt_of_cell? w _ hc)).trans hc
  exact ⟨e r0, ⟨e r1, e r2, e r3, e r4, e r5, e r6, e r7, e r8, e r9, e r10⟩, e r11, e r12, e r13, e r14, e r15, e r16, e r17, e r18, e r19, e r20, e r21⟩
theorem placed {m : DM} (hs : m.size = 156) {r : Int} {g : Int} {p : Nat} {z : Int} (hr : 0 ≤ r ∧ r ≤ 6) (hz : z = (p : Int)) (h : (g = 3 ∧ p < 24) ∨ (g = 4 ∧ p < 48)) : placeG m.size r g z = 0 := by
  subst hz
  have hk : knownG m.size r = 0 := by unfold knownG; rw [hs, if_neg (by omega), if_neg (by omega)]
  unfold placeG
  rw [hk, if_neg (by simp)]
  rcases h with ⟨rfl, h⟩ | ⟨rfl, h⟩
  · rw [first3 h, if_neg (by omega)]
  · rw [first4 h, if_neg (by omega)]
theorem getD_put {l : List PutA} {j : Nat} {a : PutA} (h : l[j]? = some a) : l.getD j {} = a := by
  rw [List.getD_eq_getElem?_getD, h]; rfl
theorem row25_zero (l : List PutA) : (#[Value.int IntKind.i64 0, Value.int IntKind.i64 0, Value.int IntKind.i64 0, Value.int IntKind.i64 0, Value.int IntKind.i64 0, Value.int IntKind.i64 0, Value.int IntKind.i64 0, Value.int IntKind.i64 0, Value.int IntKind.i64 0, Value.int IntKind.i64 0, Value.int IntKind.i64 0, Value.int IntKind.i64 0, Value.int IntKind.i64 0, Value.int IntKind.i64 0, Value.int IntKind.i64 0, Value.int IntKind.i64 0, Value.int IntKind.i64 0, Value.int IntKind.i64 0, Value.int IntKind.i64 0, Value.int IntKind.i64 0, Value.int IntKind.i64 0, Value.int IntKind.i64 0, Value.int IntKind.i64 0, Value.int IntKind.i64 0, Value.int IntKind.i64 0] : Array Value) = row25 fun k => ((lastP l 0 k : Nat) : Int) := rfl
set_option maxRecDepth 100000 in
set_option maxHeartbeats 1600000 in
theorem walNothing_law (A : Option Addr) (n c : Nat) (l : List PutA) (A2 : Option Addr) (n2 c2 : Nat) (fl : List FltA) (w : World) (h1 : Ls PutA.cells 10 w w.heap.size A n c l ∧ ∀ a ∈ l, a.Wf) (h2 : Ls FltA.cells 3 w w.heap.size A2 n2 c2 fl ∧ ∀ a ∈ fl, a.Wf) (hL : LaidF w ∧ LaidS w) :
    Calls Tryz.prog 4 #[.slice A n c, .slice A2 n2 c2] w fun r' w' => r' = .returned (.bool true) ∧ Ext w w' := by
  have hcap := h1.1.cap
  have hmost := h1.1.most
  have hcap2 := h2.1.cap
  have hmost2 := h2.1.most
  have H1 := Lib.hid h1
  have H2 := Lib.hid h2
  have HL := Lib.hid hL
  clear h1 h2 hL
  go_enter Tryz.func4, Tryz.ntmps4
  go_wp2_with fail
  refine (wawake_any w w (Ext.refl w) HL.out).mono ?_
  rintro e w1 ⟨rfl, hx⟩
  have HX := Lib.hid hx
  clear hx
  go_wp2_with fail
  refine (fits_of A n c l ((H1.out.1.below HX.out).more HX.out.size) H1.out.2 (HL.out.1.a.o.ext HX.out)).mono ?_
  rintro e w2 ⟨b, rfl, hx, hb⟩
  have HX := Lib.hid (HX.out.trans hx)
  have HB := Lib.hid hb
  clear hx hb
  cases b with
  | false =>
    go_wp2_with fail
    go_ret
    exact ⟨rfl, HX.out⟩
  | true =>
  obtain ⟨hn30, hfit⟩ := HB.out (by trivial)
  have HFT := Lib.hid hfit
  clear hfit HB
  by_cases hn2 : 40 < n2
  · go_wp2_with fail
    go_ret
    exact ⟨rfl, HX.out⟩
  go_wp2_with fail
  refine (wnew_dk HX.out).mono ?_
  rintro e w3 ⟨d, F1, rfl, hk⟩
  have HK := Lib.hid hk
  clear hk
  go_wp2_with fail
  have hst : Calls Tryz.prog 10 #[.pointer (some ⟨d, 0, none⟩), .int .i64 2, .int .i64 7, .int .i64 0] w3 fun e w' => ∃ g, e = .returned (.tuple #[.pointer (some ⟨g, 0, none⟩), .int .i64 0]) ∧ LD w w' d F1 g 0 2 7 (DM.new 156) := open_ld HK.out HL.out.1 2 7 0 (by decide)
  refine hst.mono ?_
  rintro e w4 ⟨g, rfl, hk⟩
  have HK := Lib.hid hk
  clear hk hst
  go_upto_region 12 with (fail)
  rw [row25_zero l]
  have hk := HK.out.ext ((Ext.refl w4).alloc (.cells (row25 fun k => ((lastP l 0 k : Nat) : Int)) 78))
  have hb : Keep (w4.alloc (.cells (row25 fun k => ((lastP l 0 k : Nat) : Int)) 78)) F1 w4.heap.size (.cells (row25 fun k => ((lastP l 0 k : Nat) : Int)) 78 (0, 0)) := Keep.new HK.out.dk.disk _
  have hbg : w4.heap.size ≠ g := by have := HK.out.log.lt; omega
  have hbl : w.heap.size ≤ w4.heap.size := HK.out.dk.bel.size
  generalize w4.alloc (.cells (row25 fun k => ((lastP l 0 k : Nat) : Int)) 78) = V at hk hb ⊢
  generalize w4.heap.size = b at hb hbg hbl ⊢
  have HK := Lib.hid hk
  have HB := Lib.hid hb
  have HBG := Lib.hid (And.intro hbg hbl)
  clear hk hb hbg hbl
  go_wp2_with fail
  go_loopw [10] (fun i wr => ∃ (j : Nat) (F : Nat → Prop) (m : DM), j ≤ n ∧ i = .int .i64 (j : Int) ∧ Hid (LD w wr d F g 0 2 7 m) ∧ Hid (NPut m 2 l j) ∧ Hid (Keep wr F b (.cells (row25 fun k => ((lastP l j k : Nat) : Int)) 78 (0, 0)))) (fun i _ => n - (intOf i).toNat)
  case atStart => exact ⟨0, F1, _, Nat.zero_le _, by simp, HK, Lib.hid (NPut.new 2 l), HB⟩
  case round =>
    obtain ⟨j, F, m, hj, rfl, HK, HN, HB⟩ := hrel
    by_cases hlt : j < n
    · obtain ⟨q, o, a0, hA, hg, ha0, _⟩ := H1.out.1.at_ hlt
      subst hA
      obtain ⟨a, ha, e0, e1, e2, e3, e4, e5, e6, e7, e8, e9⟩ := put_cells (H1.out.1.below HK.out.dk.bel) hlt rfl
      have HW := Lib.hid (H1.out.2 a (List.mem_of_getElem? ha))
      have HGD := Lib.hid (getD_put ha)
      have HOK := Lib.hid (HFT.out a (List.mem_of_getElem? ha))
      clear ha0 ha
      obtain ⟨at_, x, y, ek, cl, sq, ok, key, old, val⟩ := a
      have hat : at_ < 256 := HW.out.at_
      dsimp only at e0 e1 e2 e3 e4 e5 e6 e7 e8 e9
      go_upto_region 16 with (fail)
      obtain ⟨K, hK⟩ : ∃ K : Nat, (1 : Int) + (at_ : Int) % 24 = (K : Int) := ⟨1 + at_ % 24, by omega⟩
      have hK25 : K < 25 := by omega
      rw [hK]
      have HKK : Hid (K = 1 + at_ % 24 ∧ (1 : Int) + (at_ : Int) % 24 = (K : Int)) := Lib.hid ⟨by omega, hK⟩
      clear hK hat
      obtain ⟨P, hP⟩ : ∃ P, lastP l j K = P := ⟨_, rfl⟩
      have hPj : P ≤ j := hP ▸ lastP_le l K j
      have q0 : wr.cell? ⟨b, K, none⟩ = some (.int .i64 (P : Int)) := by have := HB.out.at25 hK25; rw [hP] at this; exact this
      have HPP := Lib.hid hP
      clear hP
      have PAT : Hid (∀ V, Ext w V → P9 V q (o + j * 10) x y ek cl sq ok key old val) := Lib.hid fun V hV => by
        obtain ⟨b', hb', _, g1, g2, g3, g4, g5, g6, g7, g8, g9⟩ := put_cells (H1.out.1.below hV) hlt rfl
        have h1 := getD_put hb'
        rw [HGD.out] at h1
        subst h1
        exact ⟨g1, g2, g3, g4, g5, g6, g7, g8, g9⟩
      clear e0 e1 e2 e3 e4 e5 e6 e7 e8 e9
      by_cases hP0 : P = 0
      · subst hP0
        rw [show ((0 : Nat) : Int) = 0 from rfl] at q0
        go_region
        have HKD := Lib.hid (HK.out.ext ((Ext.refl wr).drew).drew)
        have HBD := Lib.hid (HB.out.ext2 ((Ext.refl wr).drew).drew)
        have hS : P9 wr.drew.drew q (o + j * 10) x y ek cl sq ok key old val := PAT.out _ HKD.out.dk.bel
        obtain ⟨f1, f2, f3, f4, f5, f6, f7, f8, f9⟩ := hS
        have hS0 : P9 wr.drew.drew q (o + j * 10) x y ek cl sq ok key old val := ⟨f1, f2, f3, f4, f5, f6, f7, f8, f9⟩
        obtain ⟨m', hp, hn', hl1, hl2⟩ := HN.out.put (k := K) (by rw [HGD.out]; exact HKK.out.1) (.inl HPP.out) (by omega) (inc := 7) (by omega) (by rw [HGD.out]; exact HOK.out.1) (by rw [HGD.out]; exact HOK.out.2)
        rw [HGD.out] at hp
        have hpa := (CD.putA HN.out.cd (s := 0) (i := (K : Int)) (x := x) (y := y) (e := ⟨ek, cl, sq, ok, key, old, val⟩) (by have := HKK.out.1; omega) HOK.out.1 HOK.out.2 2 7).trans hp
        have HP := Lib.hid (And.intro hpa (And.intro hn' (And.intro hl1 hl2)))
        have HFW : Hid (m.waits.length + 20 ≤ 1000000) := Lib.hid (by rw [HN.out.cd.b.waits]; simp)
        clear hp hpa hn' hl1 hl2
        go_wp2_with fail
        go_region_held3 (fun w' => P9 w' q (o + j * 10) x y ek cl sq ok key old val)
          (first | with_reducible exact hS0 | with_reducible exact hS2 | with_reducible assumption)
          (first
            | (go_at_call 12; ((with_reducible refine (put_ldk HKD.out HL.out.1 HL.out.2 (by omega) (by omega) (by omega) (K : Int) x y ⟨ek, cl, sq, ok, key, old, val⟩ HW.out.e.ok HFW.out 0 HP.out.1).mono ?_); rintro e' w' ⟨rfl, F', hk, hkp⟩; have HK9 := Lib.hid hk; have HB9 := Lib.hid (HBD.out.kept hkp); have hS2 : P9 w' q (o + j * 10) x y ek cl sq ok key old val := PAT.out w' hk.dk.bel; clear hk hkp)))
        clear f1 f2 f3 f4 f5 f6 f7 f8 f9 hS0
        have hfz := HB9.out.free25 K
        have hcz := HB9.out.at25 hK25
        go_wp2_with fail
        go_roundw
        case rel => exact ⟨j + 1, F', m', by omega, by go_num, Lib.hid (HK9.out.set HB9.out.off HBG.out.1 HBG.out.2 _ _), Lib.hid HP.out.2.1, Lib.hid (by
          have h := HB9.out.set K (.int .i64 ((j : Int) + 1))
          rw [row25_set] at h
          rw [row25_congr (f := fun k => ((lastP l (j + 1) k : Nat) : Int)) (g := fun k => if k = K then (j : Int) + 1 else ((lastP l j k : Nat) : Int)) fun k _ => by
            by_cases hk : k = K
            · subst hk; rw [if_pos rfl, HP.out.2.2.1]; omega
            · rw [if_neg hk, HP.out.2.2.2 k hk]]
          exact h)⟩
        case measure => simp [intOf]; omega
      · obtain ⟨P, rfl⟩ : ∃ P', P = P' + 1 := ⟨P - 1, by omega⟩
        have hPn : P < n := by omega
        obtain ⟨a2, ha2, _, b1, b2, _⟩ := put_cells (H1.out.1.below HK.out.dk.bel) hPn rfl
        have HG2 := Lib.hid (getD_put ha2)
        clear ha2
        obtain ⟨at2, x2, y2, ent2⟩ := a2
        dsimp only at b1 b2
        have hS5 : wr.drew.cell? ⟨b, K, none⟩ = some (.int .i64 ((P : Int) + 1)) ∧ wr.drew.cell? ⟨q, o + P * 10 + 1, none⟩ = some (.int .i64 x2) ∧ wr.drew.cell? ⟨q, o + P * 10 + 2, none⟩ = some (.int .i64 y2) ∧ wr.drew.cell? ⟨q, o + j * 10 + 1, none⟩ = some (.int .i64 x) ∧ wr.drew.cell? ⟨q, o + j * 10 + 2, none⟩ = some (.int .i64 y) := by
          have hp9 := PAT.out wr HK.out.dk.bel
          exact ⟨q0, b1, b2, hp9.1, hp9.2.1⟩
        obtain ⟨k1, k2, k3, k4, k5⟩ := hS5
        have hS6 := And.intro k1 (And.intro k2 (And.intro k3 (And.intro k4 k5)))
        clear q0 b1 b2
        have hK25i : (K : Int) < 25 := by omega
        have hPni : (P : Int) < (n : Int) := by omega
        have hP30 : P < 30 := by omega
        have hwp1 : IntKind.i64.wrap (P : Int) = (P : Int) := IntWalk.i64_in _ (by omega)
        have hwp2 : IntKind.i64.wrap ((P : Int) + 1 - 1) = (P : Int) := by rw [Int.add_sub_cancel]; exact hwp1
        obtain ⟨G, hG⟩ : ∃ G, decide (gtL x y x2 y2) = G := ⟨_, rfl⟩
        have HGT := Lib.hid hG
        have HAB := Lib.hid (fun V => above_of x y x2 y2 V)
        rw [hG] at HAB
        clear hG
        cases G with
        | true =>
          go_wp2_with fail
          go_region_held3 (fun w' => w'.cell? ⟨b, K, none⟩ = some (.int .i64 ((P : Int) + 1)) ∧ w'.cell? ⟨q, o + P * 10 + 1, none⟩ = some (.int .i64 x2) ∧ w'.cell? ⟨q, o + P * 10 + 2, none⟩ = some (.int .i64 y2) ∧ w'.cell? ⟨q, o + j * 10 + 1, none⟩ = some (.int .i64 x) ∧ w'.cell? ⟨q, o + j * 10 + 2, none⟩ = some (.int .i64 y))
            (first | with_reducible exact hS6 | with_reducible exact hS7 | with_reducible assumption)
            (first
              | (go_at_call 26; ((with_reducible refine (HAB.out _).mono ?_); rintro e' wv ⟨rfl, hx⟩; have HXV := Lib.hid ((Below.drew (Ext.refl wr)).trans hx); have hS7 := And.intro (ext_of_cell hx k1) (And.intro (ext_of_cell hx k2) (And.intro (ext_of_cell hx k3) (And.intro (ext_of_cell hx k4) (ext_of_cell hx k5)))); clear hx)))
          clear k1 k2 k3 k4 k5 hS6
          have HKD := Lib.hid (HK.out.ext (HXV.out).drew)
          have HBD := Lib.hid (HB.out.ext2 (HXV.out).drew)
          have hS : P9 wv.drew q (o + j * 10) x y ek cl sq ok key old val := PAT.out _ HKD.out.dk.bel
          obtain ⟨f1, f2, f3, f4, f5, f6, f7, f8, f9⟩ := hS
          have hS0 : P9 wv.drew q (o + j * 10) x y ek cl sq ok key old val := ⟨f1, f2, f3, f4, f5, f6, f7, f8, f9⟩
          obtain ⟨m', hp, hn', hl1, hl2⟩ := HN.out.put (k := K) (by rw [HGD.out]; exact HKK.out.1) (.inr (by rw [HGD.out, HPP.out, Nat.add_sub_cancel, HG2.out]; exact of_decide_eq_true HGT.out)) (by omega) (inc := 7) (by omega) (by rw [HGD.out]; exact HOK.out.1) (by rw [HGD.out]; exact HOK.out.2)
          rw [HGD.out] at hp
          have hpa := (CD.putA HN.out.cd (s := 0) (i := (K : Int)) (x := x) (y := y) (e := ⟨ek, cl, sq, ok, key, old, val⟩) (by have := HKK.out.1; omega) HOK.out.1 HOK.out.2 2 7).trans hp
          have HP := Lib.hid (And.intro hpa (And.intro hn' (And.intro hl1 hl2)))
          have HFW : Hid (m.waits.length + 20 ≤ 1000000) := Lib.hid (by rw [HN.out.cd.b.waits]; simp)
          clear hp hpa hn' hl1 hl2
          go_wp2_with fail
          go_region_held3 (fun w' => P9 w' q (o + j * 10) x y ek cl sq ok key old val)
            (first | with_reducible exact hS0 | with_reducible exact hS2 | with_reducible assumption)
            (first
              | (go_at_call 12; ((with_reducible refine (put_ldk HKD.out HL.out.1 HL.out.2 (by omega) (by omega) (by omega) (K : Int) x y ⟨ek, cl, sq, ok, key, old, val⟩ HW.out.e.ok HFW.out 0 HP.out.1).mono ?_); rintro e' w' ⟨rfl, F', hk, hkp⟩; have HK9 := Lib.hid hk; have HB9 := Lib.hid (HBD.out.kept hkp); have hS2 : P9 w' q (o + j * 10) x y ek cl sq ok key old val := PAT.out w' hk.dk.bel; clear hk hkp)))
          clear f1 f2 f3 f4 f5 f6 f7 f8 f9 hS0
          have hfz := HB9.out.free25 K
          have hcz := HB9.out.at25 hK25
          go_wp2_with fail
          go_roundw
          case rel => exact ⟨j + 1, F', m', by omega, by go_num, Lib.hid (HK9.out.set HB9.out.off HBG.out.1 HBG.out.2 _ _), Lib.hid HP.out.2.1, Lib.hid (by
            have h := HB9.out.set K (.int .i64 ((j : Int) + 1))
            rw [row25_set] at h
            rw [row25_congr (f := fun k => ((lastP l (j + 1) k : Nat) : Int)) (g := fun k => if k = K then (j : Int) + 1 else ((lastP l j k : Nat) : Int)) fun k _ => by
              by_cases hk : k = K
              · subst hk; rw [if_pos rfl, HP.out.2.2.1]; omega
              · rw [if_neg hk, HP.out.2.2.2 k hk]]
            exact h)⟩
          case measure => simp [intOf]; omega
        | false =>
          have HSK := Lib.hid (HN.out.skip (k := K) (by rw [HGD.out]; exact HKK.out.1) ⟨by rw [HPP.out]; omega, by rw [HGD.out, HPP.out, Nat.add_sub_cancel, HG2.out]; exact of_decide_eq_false HGT.out⟩)
          go_wp2_with fail
          go_region_held3 (fun w' => w'.cell? ⟨b, K, none⟩ = some (.int .i64 ((P : Int) + 1)) ∧ w'.cell? ⟨q, o + P * 10 + 1, none⟩ = some (.int .i64 x2) ∧ w'.cell? ⟨q, o + P * 10 + 2, none⟩ = some (.int .i64 y2) ∧ w'.cell? ⟨q, o + j * 10 + 1, none⟩ = some (.int .i64 x) ∧ w'.cell? ⟨q, o + j * 10 + 2, none⟩ = some (.int .i64 y))
            (first | with_reducible exact hS6 | with_reducible exact hS7 | with_reducible assumption)
            (first
              | (go_at_call 26; ((with_reducible refine (HAB.out _).mono ?_); rintro e' wv ⟨rfl, hx⟩; have HXV := Lib.hid ((Below.drew (Ext.refl wr)).trans hx); have hS7 := And.intro (ext_of_cell hx k1) (And.intro (ext_of_cell hx k2) (And.intro (ext_of_cell hx k3) (And.intro (ext_of_cell hx k4) (ext_of_cell hx k5)))); clear hx)))
          clear k1 k2 k3 k4 k5 hS6
          go_wp2_with fail
          go_roundw
          case rel => exact ⟨j + 1, F, m, by omega, by go_num, Lib.hid (HK.out.ext HXV.out), Lib.hid HSK.out.1, Lib.hid (by
            have h := HB.out.ext2 HXV.out
            rw [row25_congr (f := fun k => ((lastP l (j + 1) k : Nat) : Int)) (g := fun k => ((lastP l j k : Nat) : Int)) fun k _ => by rw [HSK.out.2 k]]
            exact h)⟩
          case measure => simp [intOf]; omega
    · obtain rfl : j = n := by omega
      go_wp2_with fail
      refine (hurt_ld HK.out ⟨HN.out.cd, rfl⟩ A2 n2 c2 fl H2.out.1 H2.out.2).mono ?_
      rintro e w5 ⟨⟨v, rfl⟩, F5, m5, hk, hf, hkp⟩
      have HK := Lib.hid hk
      have HF := Lib.hid hf
      have HB := Lib.hid (HB.out.kept hkp)
      clear hk hf hkp
      obtain ⟨sb, hsb⟩ : ∃ sb, m5.seenB 2 = sb := ⟨_, rfl⟩
      have hse := seen_yes HK.out.dk.disk (HK.out.laid HL.out.1) 2 (by rw [HF.out.cd.b.size]; decide)
      rw [hsb] at hse
      have HSE := Lib.hid hse
      have HSB := Lib.hid hsb
      clear hse hsb
      go_wp2_with fail
      refine HSE.out.mono ?_
      rintro e w6 ⟨rfl, hx⟩
      have HK := Lib.hid (HK.out.ext hx)
      have HB := Lib.hid (HB.out.ext2 hx)
      clear hx
      cases sb with
      | false =>
        go_wp2_with fail
        go_ret
        exact ⟨rfl, HK.out.dk.bel⟩
      | true =>
      have HFW : Hid (m5.waits.length ≤ 1000000) := Lib.hid (by rw [HF.out.cd.b.waits]; simp)
      go_wp2_with fail
      go_loopw [14] (fun i wr => ∃ k : Nat, 1 ≤ k ∧ k ≤ 25 ∧ i = .int .i64 (k : Int) ∧ Hid (Ext w6 wr)) (fun i _ => 100 - (intOf i).toNat)
      case atStart => exact ⟨1, by omega, by omega, rfl, Lib.hid (Ext.refl _)⟩
      case round =>
        obtain ⟨k, hk1, hk25, rfl, HX6⟩ := hrel
        by_cases hk24 : k < 25
        · have hE : m5.lkE 0 (k : Int) = 0 := lkE_zero.2 ⟨by omega, HF.out.cd.up⟩
          have hR : m5.lkR 0 2 (k : Int) = m5.rptW 2 (k : Int) := by unfold DM.lkR; rw [if_pos hE]
          have hC : m5.lkC 0 2 (k : Int) = m5.clsW 2 (k : Int) := by unfold DM.lkC; rw [if_pos hE]
          obtain ⟨hz, hnz⟩ := HN.out.hurt HF.out HSB.out hk1 (by omega)
          obtain ⟨R, hRR⟩ : ∃ R, m5.rptW 2 (k : Int) = R := ⟨_, rfl⟩
          obtain ⟨C, hCC⟩ : ∃ C, m5.clsW 2 (k : Int) = C := ⟨_, rfl⟩
          rw [hRR] at hR hnz
          rw [hCC] at hC hz hnz
          have HZ := Lib.hid (And.intro hE (And.intro hR (And.intro hC (And.intro hz hnz))))
          clear hE hR hC hz hnz hRR hCC
          have q0 := HB.out.at25 hk24
          obtain ⟨P, hP⟩ : ∃ P, lastP l j k = P := ⟨_, rfl⟩
          have HPP := Lib.hid hP
          rw [hP] at q0
          have HQ := Lib.hid q0
          clear q0 hP
          have HKr := Lib.hid (HK.out.ext HX6.out)
          by_cases hP0 : P = 0
          · subst hP0
            have hC3 : C ≠ 3 := HZ.out.2.2.2.1 HPP.out
            obtain ⟨z, hz⟩ : ∃ z : Int, (C : Int) = z := ⟨_, rfl⟩
            have z3 : ¬ z = 3 := by omega
            have e3 : (z == 3) = false := by simpa using z3
            have HC := Lib.hid hz
            clear hC3 hz
            go_wp2_with fail
            have hst : Calls Tryz.prog 29 #[.pointer (some ⟨g, 0, none⟩), .int .i64 (k : Int)] wr fun e w' => e = .returned (.tuple #[.agg #[.int .i64 R.ix, .int .u8 (R.st : Int), .int .i64 R.x, .int .i64 R.y, .int .u8 (R.e.k : Int), .int .i64 R.e.cl, .int .i64 R.e.sq, .int .u8 (R.e.ok : Int), .string R.e.key, .string R.e.old, .string R.e.val], .int .i64 0]) ∧ Ext wr w' := get_ld HKr.out HL.out.1 HL.out.2 (by omega) (k : Int) HFW.out R 0 HZ.out.2.1 HZ.out.1
            refine hst.mono ?_
            rintro e w7 ⟨rfl, hx⟩
            have HX7 := Lib.hid hx
            clear hx hst
            go_wp2_with fail
            have hra := heap_alloc_new w7 (.cells #[.int .i64 R.ix, .int .u8 (R.st : Int), .int .i64 R.x, .int .i64 R.y, .int .u8 (R.e.k : Int), .int .i64 R.e.cl, .int .i64 R.e.sq, .int .u8 (R.e.ok : Int), .string R.e.key, .string R.e.old, .string R.e.val] 86)
            have hx := (Ext.refl w7).alloc (.cells #[.int .i64 R.ix, .int .u8 (R.st : Int), .int .i64 R.x, .int .i64 R.y, .int .u8 (R.e.k : Int), .int .i64 R.e.cl, .int .i64 R.e.sq, .int .u8 (R.e.ok : Int), .string R.e.key, .string R.e.old, .string R.e.val] 86)
            have HX7 := Lib.hid (HX7.out.trans hx)
            clear hx
            generalize w7.alloc (.cells #[.int .i64 R.ix, .int .u8 (R.st : Int), .int .i64 R.x, .int .i64 R.y, .int .u8 (R.e.k : Int), .int .i64 R.e.cl, .int .i64 R.e.sq, .int .u8 (R.e.ok : Int), .string R.e.key, .string R.e.old, .string R.e.val] 86) = V7 at hra HX7 ⊢
            generalize w7.heap.size = b7 at hra ⊢
            have HR := Lib.hid hra
            clear hra
            have hst0 := class_ld (HKr.out.ext HX7.out) HL.out.1 HL.out.2 (by omega) (k : Int) HFW.out C 0 HZ.out.2.2.1 HZ.out.1
            rw [HC.out] at hst0
            have hst : Calls Tryz.prog 30 #[.pointer (some ⟨g, 0, none⟩), .int .i64 (k : Int)] V7 fun e w' => e = .returned (.tuple #[.int .u8 z, .int .i64 0]) ∧ Ext V7 w' := hst0
            refine hst.mono ?_
            rintro e w8 ⟨rfl, hx⟩
            have HX8 := Lib.hid (HX7.out.trans hx)
            have HR := Lib.hid (keep_row hx HR.out)
            have q8 : w8.cell? ⟨b, k, none⟩ = some (.int .i64 _) := ext_of_cell (HX6.out.trans HX8.out) HQ.out
            clear hx hst hst0
            rw [show ((0 : Nat) : Int) = 0 from rfl] at q8
            go_wp2_with fail
            go_roundw
            case rel => exact ⟨k + 1, by omega, by omega, by go_num, Lib.hid (HX6.out.trans HX8.out)⟩
            case measure => simp [intOf]; omega
          · obtain ⟨P, rfl⟩ : ∃ P', P = P' + 1 := ⟨P - 1, by omega⟩
            have hPj : P + 1 ≤ j := by have := lastP_le l k j; rw [HPP.out] at this; exact this
            have hPn : P < j := by omega
            obtain ⟨A1, hA1⟩ : ∃ b, anyIn m5.hurt (firstS 3 ((k : Int) - 1)) (wid 3) = b := ⟨_, rfl⟩
            obtain ⟨B1, hB1⟩ : ∃ b, anyIn m5.hurt (firstS 4 (2 * ((k : Int) - 1))) (wid 4) = b := ⟨_, rfl⟩
            obtain ⟨C1, hC1⟩ : ∃ b, anyIn m5.hurt (firstS 4 (2 * ((k : Int) - 1) + 1)) (wid 4) = b := ⟨_, rfl⟩
            have hp1 := fun (V : World) (hV : Ext wr V) => place_yes (HKr.out.ext hV).dk.disk ((HKr.out.ext hV).laid HL.out.1) 2 3 ((k : Int) - 1) (placed HF.out.cd.b.size (r := 2) (by omega) (g := 3) (p := k - 1) (by omega) (.inl ⟨rfl, by omega⟩))
            have hp2 := fun (V : World) (hV : Ext wr V) => place_yes (HKr.out.ext hV).dk.disk ((HKr.out.ext hV).laid HL.out.1) 2 4 (2 * ((k : Int) - 1)) (placed HF.out.cd.b.size (r := 2) (by omega) (g := 4) (p := 2 * (k - 1)) (by omega) (.inr ⟨rfl, by omega⟩))
            have hp3 := fun (V : World) (hV : Ext wr V) => place_yes (HKr.out.ext hV).dk.disk ((HKr.out.ext hV).laid HL.out.1) 2 4 (2 * ((k : Int) - 1) + 1) (placed HF.out.cd.b.size (r := 2) (by omega) (g := 4) (p := 2 * (k - 1) + 1) (by omega) (.inr ⟨rfl, by omega⟩))
            rw [hA1] at hp1
            rw [hB1] at hp2
            rw [hC1] at hp3
            have HPL := Lib.hid (And.intro hp1 (And.intro hp2 hp3))
            clear hp1 hp2 hp3
            have hnz := HZ.out.2.2.2.2 (by rw [HPP.out]; omega)
            rw [HPP.out, Nat.add_sub_cancel, show (((k - 1 : Nat)) : Int) = (k : Int) - 1 by omega, show ((2 * (k - 1) : Nat) : Int) = 2 * ((k : Int) - 1) by omega, show ((2 * (k - 1) + 1 : Nat) : Int) = 2 * ((k : Int) - 1) + 1 by omega, hA1, hB1, hC1] at hnz
            clear hA1 hB1 hC1
            obtain ⟨q, o, _, hA, _⟩ := H1.out.1.at_ hPn
            subst hA
            obtain ⟨a, ha, _⟩ := put_cells (H1.out.1.below HKr.out.dk.bel) hPn rfl
            have HGD := Lib.hid (getD_put ha)
            clear ha
            obtain ⟨at_, x, y, ek, cl, sq, ok, key, old, val⟩ := a
            rcases hnz with ⟨hc3, hr⟩ | ⟨hc2, hh⟩
            · rw [HGD.out] at hr
              subst hr hc3
              go_wp2_with fail
              have hst : Calls Tryz.prog 29 #[.pointer (some ⟨g, 0, none⟩), .int .i64 (k : Int)] wr fun e w' => e = .returned (.tuple #[.agg #[.int .i64 (k : Int), .int .u8 2, .int .i64 x, .int .i64 y, .int .u8 (ek : Int), .int .i64 cl, .int .i64 sq, .int .u8 (ok : Int), .string key, .string old, .string val], .int .i64 0]) ∧ Ext wr w' := get_ld HKr.out HL.out.1 HL.out.2 (by omega) (k : Int) HFW.out ⟨(k : Int), 2, x, y, ⟨ek, cl, sq, ok, key, old, val⟩⟩ 0 (HZ.out.2.1) HZ.out.1
              refine hst.mono ?_
              rintro e w7 ⟨rfl, hx⟩
              have HX7 := Lib.hid hx
              clear hx hst
              go_wp2_with fail
              have hra := heap_alloc_new w7 (.cells #[.int .i64 (k : Int), .int .u8 2, .int .i64 x, .int .i64 y, .int .u8 (ek : Int), .int .i64 cl, .int .i64 sq, .int .u8 (ok : Int), .string key, .string old, .string val] 86)
              have hx := (Ext.refl w7).alloc (.cells #[.int .i64 (k : Int), .int .u8 2, .int .i64 x, .int .i64 y, .int .u8 (ek : Int), .int .i64 cl, .int .i64 sq, .int .u8 (ok : Int), .string key, .string old, .string val] 86)
              have HX7 := Lib.hid (HX7.out.trans hx)
              clear hx
              generalize w7.alloc (.cells #[.int .i64 (k : Int), .int .u8 2, .int .i64 x, .int .i64 y, .int .u8 (ek : Int), .int .i64 cl, .int .i64 sq, .int .u8 (ok : Int), .string key, .string old, .string val] 86) = V7 at hra HX7 ⊢
              generalize w7.heap.size = b7 at hra ⊢
              have HR := Lib.hid hra
              clear hra
              have hst : Calls Tryz.prog 30 #[.pointer (some ⟨g, 0, none⟩), .int .i64 (k : Int)] V7 fun e w' => e = .returned (.tuple #[.int .u8 3, .int .i64 0]) ∧ Ext V7 w' := class_ld (HKr.out.ext HX7.out) HL.out.1 HL.out.2 (by omega) (k : Int) HFW.out 3 0 (HZ.out.2.2.1) HZ.out.1
              refine hst.mono ?_
              rintro e w8 ⟨rfl, hx⟩
              have HX8 := Lib.hid (HX7.out.trans hx)
              have HR := Lib.hid (keep_row hx HR.out)
              have q8 : w8.cell? ⟨b, k, none⟩ = some (.int .i64 _) := ext_of_cell (HX6.out.trans HX8.out) HQ.out
              clear hx hst
              go_wp2_with fail
              refine (HPL.out.1 _ HX8.out).mono ?_
              rintro e w9 ⟨rfl, hx⟩
              have HX9 := Lib.hid (HX8.out.trans hx)
              have HR := Lib.hid (keep_row hx HR.out)
              clear hx
              go_wp2_with fail
              refine (HPL.out.2.1 _ HX9.out).mono ?_
              rintro e w10 ⟨rfl, hx⟩
              have HX10 := Lib.hid (HX9.out.trans hx)
              have HR := Lib.hid (keep_row hx HR.out)
              clear hx
              go_wp2_with fail
              refine (HPL.out.2.2 _ HX10.out).mono ?_
              rintro e w11 ⟨rfl, hx⟩
              have HX11 := Lib.hid (HX10.out.trans hx)
              have HR := Lib.hid (keep_row hx HR.out)
              clear hx
              have hS : w11.drew.cell? ⟨b, k, none⟩ = some (.int .i64 ((P : Int) + 1)) ∧ P10 w11.drew q (o + P * 10) at_ x y ek cl sq ok key old val ∧ R11 w11.drew b7 (k : Int) 2 x y ek cl sq ok key old val := by
                refine ⟨?_, ?_, R11.of HR.out⟩
                · have h := ext_of_cell (HX6.out.trans HX11.out).drew HQ.out
                  rw [show ((P + 1 : Nat) : Int) = (P : Int) + 1 by omega] at h
                  exact h
                · obtain ⟨a', ha', g0, g1, g2, g3, g4, g5, g6, g7, g8, g9⟩ := put_cells (H1.out.1.below ((HKr.out.ext HX11.out).dk.bel.drew)) hPn rfl
                  have h1 := getD_put ha'
                  rw [HGD.out] at h1
                  subst h1
                  exact ⟨g0, g1, g2, g3, g4, g5, g6, g7, g8, g9⟩
              obtain ⟨r0, ⟨r1, r2, r3, r4, r5, r6, r7, r8, r9, r10⟩, r11, r12, r13, r14, r15, r16, r17, r18, r19, r20, r21⟩ := hS
              have hS0 : w11.drew.cell? ⟨b, k, none⟩ = some (.int .i64 ((P : Int) + 1)) ∧ P10 w11.drew q (o + P * 10) at_ x y ek cl sq ok key old val ∧ R11 w11.drew b7 (k : Int) 2 x y ek cl sq ok key old val := ⟨r0, ⟨r1, r2, r3, r4, r5, r6, r7, r8, r9, r10⟩, ⟨r11, r12, r13, r14, r15, r16, r17, r18, r19, r20, r21⟩⟩
              have HIS := Lib.hid (fun V => is_yes (k : Int) x y ek cl sq ok key old val at_ V)
              have hki : (k : Int) < 25 := by omega
              have hPni : (P : Int) < (j : Int) := by omega
              have hP30 : P < 30 := by omega
              have hwp1 : IntKind.i64.wrap (P : Int) = (P : Int) := IntWalk.i64_in _ (by omega)
              have hwp2 : IntKind.i64.wrap ((P : Int) + 1 - 1) = (P : Int) := by rw [Int.add_sub_cancel]; exact hwp1
              clear q8
              cases A1
              case' false => cases B1
              all_goals
                go_upto_region 40 with (fail)
                refine wp_region_held_drew (S := (fun w' => w'.cell? ⟨b, k, none⟩ = some (.int .i64 ((P : Int) + 1)) ∧ P10 w' q (o + P * 10) at_ x y ek cl sq ok key old val ∧ R11 w' b7 (k : Int) 2 x y ek cl sq ok key old val)) (by kernel_rfl) (hS0) (fun hHeld => ?_)
                refine tj (i := 0) (oi := ⟨some 186, .move (.tmp 17), 5, "outright.go:192", #[], none⟩) rfl (by kernel_rfl) ?_
                try simp only [Act.put, sT, s0, s1]
                refine tj (i := 1) (oi := ⟨some 187, .binOp .eql 5 (.tmp 186) (.const (.int .u8 3)) 5, 4, "outright.go:192", #[⟨0, .data⟩], none⟩) rfl (by kernel_rfl) ?_
                try simp only [Act.put, sT, s0, s1]
                refine tj (i := 2) (oi := ⟨some 188, .move (.tmp 187), 4, "outright.go:192", #[⟨1, .data⟩], none⟩) rfl (by kernel_rfl) ?_
                try simp only [Act.put, sT, s0, s1]
                refine tj (i := 3) (oi := ⟨some 189, .load 86 (.tmp 15), 86, "outright.go:192", #[⟨2, .guard⟩], some (2, true)⟩) rfl (by kernel_rfl) ?_
                try simp only [Act.put, sT, s0, s1]
                refine tj (i := 4) (oi := ⟨some 190, .move (.tmp 0), 74, "outright.go:192", #[⟨2, .guard⟩], some (2, true)⟩) rfl (by kernel_rfl) ?_
                try simp only [Act.put, sT, s0, s1]
                refine tj (i := 5) (oi := ⟨some 191, .move (.tmp 14), 3, "outright.go:192", #[⟨2, .guard⟩], some (2, true)⟩) rfl (by kernel_rfl) ?_
                try simp only [Act.put, sT, s0, s1]
                refine tj (i := 6) (oi := ⟨some 192, .indexAddr 78 (.tmp 9) (.tmp 191), 0, "outright.go:192", #[⟨5, .data⟩, ⟨2, .guard⟩], some (2, true)⟩) rfl (by kernel_rfl) ?_
                try simp only [Act.put, sT, s0, s1]
                refine tj (i := 7) (oi := ⟨some 193, .load 3 (.tmp 192), 3, "outright.go:192", #[⟨6, .data⟩, ⟨2, .guard⟩], some (2, true)⟩) rfl (by kernel_rfl) ?_
                try simp only [Act.put, sT, s0, s1]
                refine tj (i := 8) (oi := ⟨some 194, .binOp .sub 3 (.tmp 193) (.const (.int .i64 1)) 3, 3, "outright.go:192", #[⟨7, .data⟩, ⟨2, .guard⟩], some (2, true)⟩) rfl (by kernel_rfl) ?_
                try simp only [Act.put, sT, s0, s1]
                refine tj (i := 9) (oi := ⟨some 195, .indexAddr 74 (.tmp 190) (.tmp 194), 0, "outright.go:192", #[⟨4, .data⟩, ⟨8, .data⟩, ⟨2, .guard⟩], some (2, true)⟩) rfl (by kernel_rfl) ?_
                try simp only [Act.put, sT, s0, s1]
                refine tj (i := 10) (oi := ⟨some 196, .load 80 (.tmp 195), 80, "outright.go:192", #[⟨9, .data⟩, ⟨2, .guard⟩], some (2, true)⟩) rfl (by kernel_rfl) ?_
                try simp only [Act.put, sT, s0, s1]
                refine wpAnyH_ready (rs := [11]) (by kernel_rfl) (by simp) ?_
                refine AllReadyH.cons (o := ⟨some 197, .call { callee := .value (.func 32), args := #[.tmp 189, .tmp 196], argTypes := #[86, 80] }, 4, "outright.go:192", #[⟨3, .data⟩, ⟨10, .data⟩, ⟨2, .chain⟩, ⟨2, .guard⟩], some (2, true)⟩) rfl (fun K hK => ?_) AllReadyH.nil
                go_simp
                refine (HIS.out _).mono ?_
                rintro e' wv ⟨rfl, hx⟩
                have HXV := Lib.hid (HX11.out.trans ((Below.drew (Ext.refl w11)).trans hx))
                have hS1 := is_keep hx hS0
                clear hx
                go_wp2_with fail
                refine hK.out _ _ (hS1) (fun hHeld => ?_)
                clear hK K
                try simp only [Act.put, sT, s0, s1]
                refine tj (i := 12) (oi := ⟨some 198, .unOp .not 4 (.tmp 197), 4, "outright.go:192", #[⟨11, .data⟩, ⟨2, .guard⟩], some (2, true)⟩) rfl (by kernel_rfl) ?_
                try simp only [Act.put, sT, s0, s1]
                refine tj (i := 13) (oi := ⟨some 199, .pick (.tmp 188) (.tmp 198) (.const (.bool false)), 4, "outright.go:192", #[⟨2, .data⟩, ⟨12, .data⟩], none⟩) rfl (by kernel_rfl) ?_
                try simp only [Act.put, sT, s0, s1]
                refine tj (i := 14) (oi := ⟨some 200, .move (.tmp 199), 4, "outright.go:192", #[⟨13, .data⟩, ⟨11, .chain⟩], none⟩) rfl (by kernel_rfl) ?_
                try simp only [Act.put, sT, s0, s1]
                refine tj (i := 15) (oi := ⟨some 201, .move (.tmp 17), 5, "outright.go:192", #[⟨14, .guard⟩], some (14, false)⟩) rfl (by kernel_rfl) ?_
                try simp only [Act.put, sT, s0, s1]
                refine tj (i := 16) (oi := ⟨some 202, .binOp .neq 5 (.tmp 201) (.const (.int .u8 3)) 5, 4, "outright.go:192", #[⟨15, .data⟩, ⟨14, .guard⟩], some (14, false)⟩) rfl (by kernel_rfl) ?_
                try simp only [Act.put, sT, s0, s1]
                refine tj (i := 17) (oi := ⟨some 203, .move (.tmp 202), 4, "outright.go:192", #[⟨16, .data⟩, ⟨14, .chain⟩, ⟨14, .guard⟩], some (14, false)⟩) rfl (by kernel_rfl) ?_
                try simp only [Act.put, sT, s0, s1]
                refine tk (i := 18) (oi := ⟨some 204, .move (.tmp 17), 5, "outright.go:192", #[⟨17, .guard⟩], some (17, true)⟩) (v := undef) rfl (by kernel_rfl) (Or.inr ⟨by rfl, rfl⟩) ?_
                try simp only [Act.put, sT, s0, s1]
                refine tk (i := 19) (oi := ⟨some 205, .binOp .neq 5 (.tmp 204) (.const (.int .u8 2)) 5, 4, "outright.go:192", #[⟨18, .data⟩, ⟨17, .guard⟩], some (17, true)⟩) (v := undef) rfl (by kernel_rfl) (Or.inr ⟨by rfl, rfl⟩) ?_
                try simp only [Act.put, sT, s0, s1]
                refine tk (i := 20) (oi := ⟨some 206, .move (.tmp 205), 4, "outright.go:192", #[⟨19, .data⟩, ⟨17, .chain⟩, ⟨17, .guard⟩], some (17, true)⟩) (v := undef) rfl (by kernel_rfl) (Or.inr ⟨by rfl, rfl⟩) ?_
                try simp only [Act.put, sT, s0, s1]
                refine tk (i := 21) (oi := ⟨some 207, .move (.tmp 28), 4, "outright.go:192", #[⟨20, .guard⟩], some (20, false)⟩) (v := undef) rfl (by kernel_rfl) (Or.inr ⟨by rfl, rfl⟩) ?_
                try simp only [Act.put, sT, s0, s1]
                refine tk (i := 22) (oi := ⟨some 208, .pick (.tmp 206) (.const (.bool true)) (.tmp 207), 4, "outright.go:192", #[⟨20, .data⟩, ⟨21, .data⟩, ⟨17, .guard⟩], some (17, true)⟩) (v := undef) rfl (by kernel_rfl) (Or.inr ⟨by rfl, rfl⟩) ?_
                try simp only [Act.put, sT, s0, s1]
                refine tj (i := 23) (oi := ⟨some 209, .pick (.tmp 203) (.tmp 208) (.const (.bool false)), 4, "outright.go:192", #[⟨17, .data⟩, ⟨22, .data⟩, ⟨14, .guard⟩], some (14, false)⟩) rfl (by kernel_rfl) ?_
                try simp only [Act.put, sT, s0, s1]
                refine tj (i := 24) (oi := ⟨some 210, .pick (.tmp 200) (.const (.bool true)) (.tmp 209), 4, "outright.go:192", #[⟨14, .data⟩, ⟨23, .data⟩], none⟩) rfl (by kernel_rfl) ?_
                try simp only [Act.put, sT, s0, s1]
                refine wpAnyH_done (by kernel_rfl) ?_ _
                clear hHeld
                go_wp2_with fail
                go_roundw
                case rel => exact ⟨k + 1, by omega, by omega, by go_num, Lib.hid (HX6.out.trans HXV.out)⟩
                case measure => simp [intOf]; omega
            · subst hc2
              go_wp2_with fail
              have hst : Calls Tryz.prog 29 #[.pointer (some ⟨g, 0, none⟩), .int .i64 (k : Int)] wr fun e w' => e = .returned (.tuple #[.agg #[.int .i64 R.ix, .int .u8 (R.st : Int), .int .i64 R.x, .int .i64 R.y, .int .u8 (R.e.k : Int), .int .i64 R.e.cl, .int .i64 R.e.sq, .int .u8 (R.e.ok : Int), .string R.e.key, .string R.e.old, .string R.e.val], .int .i64 0]) ∧ Ext wr w' := get_ld HKr.out HL.out.1 HL.out.2 (by omega) (k : Int) HFW.out R 0 (HZ.out.2.1) HZ.out.1
              refine hst.mono ?_
              rintro e w7 ⟨rfl, hx⟩
              have HX7 := Lib.hid hx
              clear hx hst
              go_wp2_with fail
              have hra := heap_alloc_new w7 (.cells #[.int .i64 R.ix, .int .u8 (R.st : Int), .int .i64 R.x, .int .i64 R.y, .int .u8 (R.e.k : Int), .int .i64 R.e.cl, .int .i64 R.e.sq, .int .u8 (R.e.ok : Int), .string R.e.key, .string R.e.old, .string R.e.val] 86)
              have hx := (Ext.refl w7).alloc (.cells #[.int .i64 R.ix, .int .u8 (R.st : Int), .int .i64 R.x, .int .i64 R.y, .int .u8 (R.e.k : Int), .int .i64 R.e.cl, .int .i64 R.e.sq, .int .u8 (R.e.ok : Int), .string R.e.key, .string R.e.old, .string R.e.val] 86)
              have HX7 := Lib.hid (HX7.out.trans hx)
              clear hx
              generalize w7.alloc (.cells #[.int .i64 R.ix, .int .u8 (R.st : Int), .int .i64 R.x, .int .i64 R.y, .int .u8 (R.e.k : Int), .int .i64 R.e.cl, .int .i64 R.e.sq, .int .u8 (R.e.ok : Int), .string R.e.key, .string R.e.old, .string R.e.val] 86) = V7 at hra HX7 ⊢
              generalize w7.heap.size = b7 at hra ⊢
              have HR := Lib.hid hra
              clear hra
              have hst : Calls Tryz.prog 30 #[.pointer (some ⟨g, 0, none⟩), .int .i64 (k : Int)] V7 fun e w' => e = .returned (.tuple #[.int .u8 2, .int .i64 0]) ∧ Ext V7 w' := class_ld (HKr.out.ext HX7.out) HL.out.1 HL.out.2 (by omega) (k : Int) HFW.out 2 0 (HZ.out.2.2.1) HZ.out.1
              refine hst.mono ?_
              rintro e w8 ⟨rfl, hx⟩
              have HX8 := Lib.hid (HX7.out.trans hx)
              have HR := Lib.hid (keep_row hx HR.out)
              have q8 : w8.cell? ⟨b, k, none⟩ = some (.int .i64 _) := ext_of_cell (HX6.out.trans HX8.out) HQ.out
              clear hx hst
              rw [show ((P + 1 : Nat) : Int) = (P : Int) + 1 by omega] at q8
              go_wp2_with fail
              refine (HPL.out.1 _ HX8.out).mono ?_
              rintro e w9 ⟨rfl, hx⟩
              have HX9 := Lib.hid (HX8.out.trans hx)
              have HR := Lib.hid (keep_row hx HR.out)
              clear hx
              go_wp2_with fail
              refine (HPL.out.2.1 _ HX9.out).mono ?_
              rintro e w10 ⟨rfl, hx⟩
              have HX10 := Lib.hid (HX9.out.trans hx)
              have HR := Lib.hid (keep_row hx HR.out)
              clear hx
              go_wp2_with fail
              refine (HPL.out.2.2 _ HX10.out).mono ?_
              rintro e w11 ⟨rfl, hx⟩
              have HX11 := Lib.hid (HX10.out.trans hx)
              have HR := Lib.hid (keep_row hx HR.out)
              clear hx
              have q11 : w11.cell? ⟨b, k, none⟩ = some (.int .i64 ((P : Int) + 1)) := by
                have h := ext_of_cell (HX6.out.trans HX11.out) HQ.out
                rw [show ((P + 1 : Nat) : Int) = (P : Int) + 1 by omega] at h
                exact h
              clear q8
              cases A1 with
              | true =>
                go_wp2_with fail
                go_region
                go_wp2_with fail
                go_roundw
                case rel => exact ⟨k + 1, by omega, by omega, by go_num, Lib.hid (HX6.out.trans (Ext.drew HX11.out))⟩
                case measure => simp [intOf]; omega
              | false =>
              cases B1 with
              | true =>
                go_wp2_with fail
                go_region
                go_wp2_with fail
                go_roundw
                case rel => exact ⟨k + 1, by omega, by omega, by go_num, Lib.hid (HX6.out.trans (Ext.drew HX11.out))⟩
                case measure => simp [intOf]; omega
              | false =>
              cases C1 with
              | true =>
                go_wp2_with fail
                go_region
                go_wp2_with fail
                go_roundw
                case rel => exact ⟨k + 1, by omega, by omega, by go_num, Lib.hid (HX6.out.trans (Ext.drew HX11.out))⟩
                case measure => simp [intOf]; omega
              | false =>
                simp at hh
        · obtain rfl : k = 25 := by omega
          go_wp2_with fail
          go_ret
          exact ⟨rfl, (HK.out.ext HX6.out).dk.bel⟩
end Go.Proofs.YtnlappoocffcpaaGreatDoor

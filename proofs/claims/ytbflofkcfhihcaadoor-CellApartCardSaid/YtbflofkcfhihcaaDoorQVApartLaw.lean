/-
  CellApart: the two regions' cells have nothing to do with one another; nor have two replicas'.
-/
import Derived.Test.YtbflofkcfhihcaaDoorQ17
import Derived.Test.YtbflofkcfhihcaaDoorQ30
namespace Go.Proofs.YtbflofkcfhihcaaDoor
open Go Go.RowKit

theorem other_bad {x : List Nat} {g p : Int} {v c : Nat} {b : List Nat} (h : Cop x g p v c b) : stM x 1 g p = 2 := by
  obtain ⟨hg, hm⟩ := stM_one h.st
  have h0 := ((mineB_iff hg).1 hm).1
  have hm1 : mineB x 1 g p = false := by
    cases hh : mineB x 1 g p with
    | false => rfl
    | true => have := ((mineB_iff hg).1 hh).1; omega
  exact (mine_no hg hm1).1
theorem bad_r {r g : Int} {x y : List Nat} (hx : stM x r g 0 = 2) (hy : stM y r g 1 = 2) : cellE r g x y = 70 := by
  unfold cellE atC blankC pickP lead0 lead1
  rw [hx, hy]
  rfl
theorem blank_r {r g : Int} {x y : List Nat} (hx : stM x r g 0 = 0) : cellE r g x y = 0 := by
  unfold cellE blankC pickP
  rw [hx, if_neg (by simp)]
theorem CD.loadR {m : DM} {pw : Int} (h : CD m pw) {g : Int} (hg : g = 1 ∨ g = 2) (r : Int) : m.loadE r g = cellE r g (m.hold (secV g 0)) (m.hold (secV g 1)) := by
  unfold DM.loadE
  rw [if_neg (by rw [h.up]; simp), h.cb0 hg, h.cb1 hg]
theorem known1 {m : DM} (hs : m.size = 156) : knownC m.size 1 1 = 0 := by rw [hs]; rfl
theorem bodyAt_last {l : List Lst} {n : Nat} {a : Lst} (h : l[n]? = some a) : bodyAt l (n + 1) = a.l := by
  unfold bodyAt
  rw [if_neg (by omega), Nat.add_sub_cancel, List.getD_eq_getElem?_getD, h]
  rfl
set_option maxRecDepth 100000 in
set_option maxHeartbeats 1600000 in
theorem cellApart_law (A : Option Addr) (n c : Nat) (l : List Lst) (A2 : Option Addr) (n2 c2 : Nat) (l2 : List Lst) (w : World) (h1 : Lsts w w.heap.size A n c l) (h2 : Lsts w w.heap.size A2 n2 c2 l2) (hL : LaidF w) :
    Calls Tryd.prog 7 #[.slice A n c, .slice A2 n2 c2] w fun e w' => e = .returned (.bool true) ∧ Ext w w' := by
  have H1 := Lib.hid h1
  have H2 := Lib.hid h2
  have HL := Lib.hid hL
  have hn0 := Nat.zero_le n
  clear h1 h2 hL
  go_enter Tryd.func7, Tryd.ntmps7
  go_wp2_with fail
  refine (cawake_any w w (Ext.refl w) HL.out).mono ?_
  rintro e w1 ⟨rfl, hx⟩
  have HX := Lib.hid hx
  clear hx
  go_wp2_with fail
  refine (great7_of A n c l (H1.out.below HX.out)).mono ?_
  rintro e w1' ⟨b, rfl, rfl, hg1⟩
  cases b with
  | true =>
    go_wp2_with fail
    go_ret
    exact ⟨rfl, HX.out⟩
  | false =>
    obtain ⟨hn20, hall1⟩ := hg1 rfl
    have HA1 := Lib.hid hall1
    clear hg1 hall1
    go_wp2_with fail
    refine (great7_of A2 n2 c2 l2 (H2.out.below HX.out)).mono ?_
    rintro e w1' ⟨b, rfl, rfl, hg2⟩
    cases b with
    | true =>
      go_wp2_with fail
      go_ret
      exact ⟨rfl, HX.out⟩
    | false =>
      obtain ⟨hm20, hall2⟩ := hg2 rfl
      have HA2 := Lib.hid hall2
      clear hg2 hall2
      go_wp2_with fail
      refine (new_dk HX.out).mono ?_
      rintro e w2 ⟨d, F, rfl, hk⟩
      have HK := Lib.hid hk
      clear hk
      go_wp2_with fail
      refine (stored_of HK.out HL.out CD.new 1 (.inl rfl) (new_two (.inl rfl)) A n c l H1.out hn20 HA1.out).mono ?_
      rintro e w3 ⟨rfl, F3, m3, hk, hd3, ht3, ho3⟩
      have HK := Lib.hid hk
      have HD3 := Lib.hid hd3
      have HT3 := Lib.hid ht3
      have HTN : Hid (Two m3 2 0 []) := Lib.hid (Two.of_eq (m := DM.new 156) (new_two (.inr rfl)) (ho3 _ (by decide) (by decide)) (ho3 _ (by decide) (by decide)))
      clear hk hd3 ht3 ho3
      go_wp2_with fail
      refine (stored_of HK.out HL.out HD3.out 2 (.inr rfl) HTN.out A2 n2 c2 l2 H2.out hm20 HA2.out).mono ?_
      rintro e w4 ⟨rfl, F4, m4, hk, hd4, ht4, ho4⟩
      have HK := Lib.hid hk
      have HD4 := Lib.hid hd4
      have HT4 : Hid (Two m4 1 n (bodyAt l n)) := Lib.hid (Two.of_eq HT3.out (ho4 _ (by decide) (by decide)) (ho4 _ (by decide) (by decide)))
      clear hk hd4 ht4 ho4
      have HLD := Lib.hid (HD4.out.ld (.inl rfl) HT4.out.ldd)
      have HF : Hid (m4.loadE 1 1 = if n = 0 then 0 else 70) := Lib.hid (by
        rw [HD4.out.loadR (.inl rfl)]
        rcases HT4.out with ⟨rfl, _, hx0, _⟩ | ⟨hn1, p, q, hx, hy⟩
        · rw [if_pos rfl, hx0]
          exact blank_r (z64_blank 1 1 0)
        · rw [if_neg (by omega)]
          exact bad_r (other_bad hx) (other_bad hy))
      have hlo := fun (w' : World) (F' : Nat → Prop) (hk : DK w w' d F' m4) => Load_dk hk HL.out 1 1 (known1 HD4.out.b.size) (by rw [HD4.out.b.waits]; simp)
      rw [HF.out] at hlo
      have HLO := Lib.hid hlo
      clear hlo
      by_cases hz : n = 0
      · subst hz
        go_wp2_with fail
        refine (HLO.out _ _ HK.out).mono ?_
        rintro e w5 ⟨A5, N5, rfl, _, hx⟩
        have HK := Lib.hid (HK.out.ext hx)
        clear hx
        go_wp2_with fail
        refine (loads_yes HK.out HL.out 1 0 none 0 0 [] (By.nil_ _) HD4.out.b.size (.inl rfl) (by rw [HD4.out.b.waits]; simp) 0 HLD.out rfl).mono ?_
        rintro e w6 ⟨rfl, hk⟩
        have HK := Lib.hid hk
        clear hk
        go_wp2_with fail
        go_ret
        exact ⟨rfl, HK.out.bel⟩
      · obtain ⟨k, rfl⟩ : ∃ k, n = k + 1 := ⟨n - 1, by omega⟩
        obtain ⟨gb, o, a, rfl, hgb, ha, hok, h0⟩ := H1.out.at_ (j := k) (by omega)
        have c0 := (Below.cell HK.out.bel (p := ⟨gb, o + k, none⟩) hgb).trans h0
        have HOK := Lib.hid hok
        have HBA := Lib.hid (bodyAt_last ha)
        clear h0 ha hok
        go_wp2_with fail
        have hlo := HLO.out _ _ HK.out
        rw [if_neg hz] at hlo
        refine hlo.mono ?_
        rintro e w5 ⟨A5, N5, rfl, _, hx⟩
        have HK := Lib.hid (HK.out.ext hx)
        have HLD := Lib.hid (by have := HLD.out; rwa [HBA.out] at this)
        clear hx hlo c0
        go_wp2_with fail
        refine (loads_yes HK.out HL.out 1 _ a.A a.n a.c a.l (HK.out.byIn HOK.out) HD4.out.b.size (.inl rfl) (by rw [HD4.out.b.waits]; simp) (k + 1) HLD.out (by omega)).mono ?_
        rintro e w6 ⟨rfl, hk⟩
        have HK := Lib.hid hk
        clear hk
        go_wp2_with fail
        go_ret
        exact ⟨rfl, HK.out.bel⟩
end Go.Proofs.YtbflofkcfhihcaaDoor
